/-
  Package log: Open.
-/
import Derived.Test.YtdndkapfaiplnaaLog4
import Derived.Test.YtdndkapfaiplnaaLog6
namespace Go.Proofs.Ytdndkapfaiplnaa
set_option linter.unusedVariables false
set_option linter.unusedSimpArgs false
set_option maxRecDepth 20000
open Go.RowKit

/-- The slot of the next epoch. -/
def Slot.up (t : Slot) : Slot := { t with num := t.num + 1, ep := t.ep + 1 }
/-- What Open writes. -/
def DSt.opened (s : DSt) (t : Slot) (at_ : Int) : DSt × Int := if (s.putS at_ t.sec).2 = 0 then (s.putS at_ t.sec).1.putS ((t.num + 1) % 2) t.up.sec else s.putS at_ t.sec
def NoOpen (w0 : World) (R : Blks) (d : Value) (s : DSt) (r : Int) (en : Ending) (w' : World) : Prop := HasDisk w0 R d s (.tuple #[.pointer none, .slice none 0 0, .int .i64 r]) en w'
def Opened1 (w0 : World) (R : Blks) (d : Value) (s : DSt) (l : LSt) (bs : List (List Int)) (en : Ending) (w' : World) : Prop :=
  ∃ gv rv X Ld Lg, en = .returned (.tuple #[gv, rv, .int .i64 0]) ∧ IsLog gv d l Lg ∧ GotRows w0 X rv bs ∧ IsDisk d s Ld ∧ Own w0 w' (Ld ++ (Lg ++ (X ++ R)))
def LOpened (w0 : World) (R : Blks) (d : Value) (res : DSt × Int) (t : Slot) (a : Nat) (rs : List Rec) (en : Ending) (w' : World) : Prop :=
  (res.2 = 0 ∧ Opened1 w0 R d res.1 ⟨t.num + 1, t.ep + 1, t.half, ((a + needR rs : Nat) : Int), t.first + rs.length, false⟩ (rs.map (·.2)) en w') ∨ (res.2 ≠ 0 ∧ NoOpen w0 R d res.1 res.2 en w')
theorem build_log (bd : Nat) (a b c : Int) (w : World) : (Instr.build 82 #[(0, .pointer (some ⟨bd, 0, none⟩)), (1, .int .i64 a), (2, .int .i64 b), (3, .int .i64 c)]).run Try.prog w = .ok (.agg (lgv (.pointer (some ⟨bd, 0, none⟩)) ⟨a, b, c, 0, 0, false⟩).toArray) w := by kernel_rfl
theorem putS_n (s : DSt) (a : Int) (x : List Int) : (s.putS a x).1.n = s.n := by
  unfold DSt.putS
  have h : ∀ s' : DSt, s'.flush.n = s'.n := by
    intro s'
    unfold DSt.flush
    split
    · rfl
    · exact DSt.length_la s'
  split
  · rw [h, write_n]
  · exact write_n s a x
theorem putS_pend (s : DSt) (a : Int) (x : List Int) : (s.putS a x).1.pend.length ≤ s.pend.length + 1 := by
  unfold DSt.putS
  have h := write_pend s a x
  split
  · unfold DSt.flush
    split
    · exact h
    · simp
  · exact h
section
variable {w0 w : World} {R L : Blks} {d : Value} {s : DSt}
set_option maxHeartbeats 2000000 in
theorem lopen_arg (hd : IsDisk d s L) (hO : Own w0 w (L ++ R)) (hn : s.n ≠ 514) : Calls Try.prog 25 #[d] w (NoOpen w0 R d s 1) := by
  have hl := len_c hd hO
  have HL := Lib.hid hl; have HO := Lib.hid hO; have HD := Lib.hid hd
  have hne : ((s.n : Int) != 514) = true := bne_iff_ne.2 (by omega)
  clear hl hO hd hn
  go_enter Try.func25, Try.ntmps25
  go_wp2_with fail
  with_reducible refine HL.out.mono ?_
  rintro e w1 ⟨rfl, rfl⟩
  clear HL
  go_wp2
  go_ret3
  exact ⟨rfl, L, HD.out, HO.out⟩
set_option maxHeartbeats 2000000 in
theorem lopen_err (hd : IsDisk d s L) (hO : Own w0 w (L ++ R)) (hn : s.n = 514) (r : Int) (hr : r ≠ 0) (hc : Calls Try.prog 44 #[d] w (GotNew w0 R d s noSlot 0 r)) : Calls Try.prog 25 #[d] w (NoOpen w0 R d s r) := by
  have hl := len_is hd hO 514 (by rw [hn]; rfl)
  have HL := Lib.hid hl; have HC := Lib.hid hc
  have hne : (r != 0) = true := bne_iff_ne.2 hr
  clear hl hO hd hn hc hr
  go_enter Try.func25, Try.ntmps25
  go_wp2_with fail
  with_reducible refine HL.out.mono ?_
  rintro e w1 ⟨rfl, rfl⟩
  clear HL
  go_wp2_with fail
  with_reducible refine HC.out.mono ?_
  rintro e w1 ⟨rfl, L1, hd1, hO1⟩
  have HD := Lib.hid hd1; have HO := Lib.hid hO1
  clear HC hd1 hO1
  go_wp2_with (first | (refine wl_alloc rfl _ rfl HO.out _ (alloc_slot _) ?_; intro g w1 hO1; have HO1 := Lib.hid hO1; clear hO1 HO) | (refine wl_store rfl _ _ _ rfl HO1.out 0 g 0 _ (slv noSlot) _ rfl (by rfl) (by rfl) (slot_size _) (one_slv _) (by simp [slv]) ?_; intro w3 hO3; have HO3 := Lib.hid hO3; clear hO3 HO1))
  go_ret3
  exact ⟨rfl, L1, HD.out, HO3.out.tail⟩
theorem lopen_down (hd : IsDisk d s L) (hO : Own w0 w (L ++ R)) (hn : s.n = 514) (h : s.down = true) : Calls Try.prog 25 #[d] w (NoOpen w0 R d s 8) := lopen_err hd hO hn 8 (by omega) (newest_down hd hO h)
theorem lopen_none (hd : IsDisk d s L) (hO : Own w0 w (L ++ R)) (hn : s.n = 514) (h : s.down = false) (hB : ∀ j : Nat, Byt (s.la.getD j [])) (hf : (newTo s.la 2).2.2 = false) : Calls Try.prog 25 #[d] w (NoOpen w0 R d s 3) :=
  lopen_err hd hO hn 3 (by omega) ((newest_c hd hO h (by omega) hB).mono (by
    rintro e w' (⟨h, -⟩ | ⟨-, h⟩)
    · rw [hf] at h; cases h
    · exact h))
set_option maxHeartbeats 8000000 in
theorem lopen_c (hd : IsDisk d s L) (hO : Own w0 w (L ++ R)) (hn : s.n = 514) (hdn : s.down = false) (hB : ∀ j : Nat, Byt (s.la.getD j [])) (t : Slot) (at_ : Int) (hf : newTo s.la 2 = (t, at_, true)) (ht : t.Ok) (h1 : t.num < 16777215) (h2 : t.ep < 65535) (hpl : s.pend.length < 1000)
    (rs : List Rec) (a : Nat) (ha : (a : Int) = 2 + t.half * 256) (hfs : t.first + rs.length ≤ 16777216) (hl : Laid s.la a t.first rs) (hk : RecsOk t.first t.begun t.ep rs) (hfit : needR rs ≤ 256)
    (hst : Stop s (a + needR rs : Nat) (a + 256) (t.first + rs.length) (lastEp t.begun rs)) :
    Calls Try.prog 25 #[d] w (LOpened w0 R d (s.opened t at_) t a rs) := by
  have hpt := hd.ptr
  have hln := len_is hd hO 514 (by rw [hn]; rfl)
  have hnew := newest_c hd hO hdn (by omega) hB
  rw [hf] at hnew
  have hh := ht.half
  have hload := fun (l : LSt) (v : Value) (w : World) (R L Lg : Blks) (hd : IsDisk d s L) (hg : IsLog v d l Lg) (hO : Own w0 w (L ++ (Lg ++ R))) => load_c hd hg hO t rs a hh ha ⟨ht.first.1, hfs⟩ hl hk hdn hB hfit (by rw [hn]; push_cast; rcases hh with h | h <;> rw [h] at ha <;> omega) hst
  have hup : t.up.Ok := ⟨⟨by have := ht.num.1; simp only [Slot.up]; omega, by simp only [Slot.up]; omega⟩, ⟨by have := ht.ep.1; simp only [Slot.up]; omega, by simp only [Slot.up]; omega⟩, ht.half, ht.first, ht.begun⟩
  have hop : s.opened t at_ = if (s.putS at_ t.sec).2 = 0 then (s.putS at_ t.sec).1.putS ((t.num + 1) % 2) t.up.sec else s.putS at_ t.sec := rfl
  have hp1 := putS_pend s at_ t.sec
  obtain ⟨res, hres⟩ : ∃ res, s.opened t at_ = res := ⟨_, rfl⟩
  rw [hres] at hop ⊢
  obtain ⟨ps, hps⟩ : ∃ ps, s.putS at_ t.sec = ps := ⟨_, rfl⟩
  rw [hps] at hop hp1
  have HNEW := Lib.hid hnew; have HLN := Lib.hid hln; have HLOAD := Lib.hid hload; have HOP := Lib.hid hop; have HPS := Lib.hid hps; have HT := Lib.hid ht; have HUP := Lib.hid hup; have HP1 := Lib.hid hp1
  have hn0 := ht.num.1; have he0 := ht.ep.1
  clear hnew hln hload hop hps hres hd hO hl hk hst hB hf ht hup hdn ha hp1
  obtain ⟨bd, rfl⟩ := hpt
  obtain ⟨s1, r1⟩ := ps
  have hw1 : IntKind.i64.wrap (t.num + 1) = t.num + 1 := IntWalk.i64_in _ (by omega)
  have hw2 : IntKind.i64.wrap (t.ep + 1) = t.ep + 1 := IntWalk.i64_in _ (by omega)
  go_enter Try.func25, Try.ntmps25
  go_wp2_with fail
  with_reducible refine HLN.out.mono ?_
  rintro e w1 ⟨rfl, rfl⟩
  clear HLN
  go_wp2_with fail
  with_reducible refine HNEW.out.mono ?_
  clear HNEW
  rintro e w1 (⟨-, rfl, L1, hd1, hO1⟩ | ⟨h, -⟩)
  case inr => cases h
  simp only []
  have HD1 := Lib.hid hd1; have HO1 := Lib.hid hO1
  clear hd1 hO1
  go_wp2_with (first | (refine wl_alloc rfl _ rfl HO1.out _ (alloc_slot _) ?_; intro g5 w2 hO2; have HO2 := Lib.hid hO2; clear hO2 HO1) | (refine wl_store rfl _ _ _ rfl HO2.out 0 g5 0 _ (slv t) _ rfl (by rfl) (by rfl) (slot_size _) (one_slv _) (by simp [slv]) ?_; intro w3 hO3; obtain ⟨q0, q1, q2, -⟩ := slot_cells (t := t) hO3 (.head _); have HO3 := Lib.hid hO3; clear hO3 HO2) | (refine wl_build rfl _ _ rfl _ (by exact build_log bd (t.num + 1) (t.ep + 1) t.half _) ?_) | (refine wl_box rfl _ _ rfl HO3.out _ (by rfl) ?_; intro gl w4 hO4; have HO4 := Lib.hid hO4; clear hO4 HO3) | (refine wl_load rfl _ _ rfl g5 0 (slv t) (slv t) _ (HO4.out.heap (.tail _ (.head _))) (by rfl) _ Try.underlying75 rfl (slot_size t) (by rfl) ?_))
  clear q0 q1 q2
  have hO5 : Own w0 w4 (L1 ++ ([(gl, .cells (lgv (.pointer (some ⟨bd, 0, none⟩)) ⟨t.num + 1, t.ep + 1, t.half, 0, 0, false⟩).toArray 82)] ++ ((g5, .cells (slv t).toArray 75) :: R))) := by
    have h4 : Own w0 w4 ((gl, .cells (lgv (.pointer (some ⟨bd, 0, none⟩)) ⟨t.num + 1, t.ep + 1, t.half, 0, 0, false⟩).toArray 82) :: (g5, .cells (slv t).toArray 75) :: (L1 ++ R)) := HO4.out
    exact own_count h4 (by intro p; simp only [List.count_append, List.count_cons, List.count_nil]; omega)
  have hcall := HLOAD.out _ _ _ _ _ _ HD1.out ⟨gl, rfl, rfl⟩ hO5
  with_reducible refine hcall.mono ?_
  clear hcall HLOAD hO5 HO4 HD1
  rintro e w5 ⟨rv, X, Ld, Lg, rfl, hrows, hd5, hg5, hO5⟩
  have HROWS := Lib.hid hrows; have HD5 := Lib.hid hd5; have HG5 := Lib.hid hg5; have HO5 := Lib.hid hO5
  have hp5 : w5.heap[g5]? = some (.cells (slv t).toArray 75) := hO5.heap (List.mem_append_right _ (List.mem_append_right _ (List.mem_append_right _ (.head _))))
  have HP5 := Lib.hid hp5
  clear hrows hd5 hg5 hO5 hp5
  go_wp2_with (first | (refine wl_load rfl _ _ rfl g5 0 (slv t) (slv t) _ (HP5.out) (by rfl) _ Try.underlying75 rfl (slot_size t) (by rfl) ?_))
  have hcall := put_c HD5.out HO5.out t HT.out at_ (by omega)
  rw [HPS.out] at hcall
  with_reducible refine hcall.mono ?_
  clear hcall HO5 HD5
  rintro e w6 ⟨rfl, L6, hd6, hO6⟩
  have HD6 := Lib.hid hd6; have HO6 := Lib.hid hO6
  clear hd6 hO6
  simp only []
  have hOP := HOP.out
  simp only at hOP HD6 HP1
  by_cases hr1 : r1 = 0
  · rw [if_pos hr1] at hOP
    subst hr1
    have HOP2 := Lib.hid hOP
    clear hOP HOP
    obtain ⟨gl2, e2, rfl⟩ := HG5.out
    cases e2
    have hp6 : w6.heap[g5]? = some (.cells (slv t).toArray 75) := HO6.out.heap (List.mem_append_right _ (List.mem_append_right _ (List.mem_append_right _ (.head _))))
    have HP6 := Lib.hid hp6
    clear hp6 HP5
    go_wp2_with (first | (refine wl_load rfl _ _ rfl g5 0 (slv t) (slv t) _ (HP6.out) (by rfl) _ Try.underlying75 rfl (slot_size t) (by rfl) ?_) | (refine wl_alloc rfl _ rfl HO6.out _ (alloc_slot _) ?_; intro g8 w7 hO7; have HO7 := Lib.hid hO7; clear hO7 HO6 HP6) | (refine wl_store rfl _ _ _ rfl HO7.out 0 g8 0 _ (slv t) _ rfl (by rfl) (by rfl) (slot_size _) (one_slv _) (by simp [slv]) ?_; intro w8 hO8; have HO8 := Lib.hid hO8.drew; clear hO8 HO7))
    refine wp_region_lin (fun w' => w'.heap[gl]? = some (.cells (lgv (.pointer (some ⟨bd, 0, none⟩)) ⟨t.num + 1, t.ep + 1, t.half, ((a + needR rs : Nat) : Int), t.first + rs.length, false⟩).toArray 82)) 12 [(0, true), (1, true), (2, true), (3, true), (4, true), (5, true), (6, true), (7, true), (8, true), (9, false), (10, true), (11, false)] (by kernel_rfl) (by kernel_rfl) (fun _ _ d _ _ h => by cases d <;> exact h) (HO8.out.heap (.tail _ (List.mem_append_right _ (.head _)))) ?_
    generalize w8.drew = w9 at *
    simp only [List.map_cons, List.map_nil, pick_zero, pick_succ, List.drop_succ_cons, List.drop_zero]
    iterate 9 (refine lin_q ?_ rfl ?_ ?_; rotate_left 1; (focus (rintro w' hS; have c1 : w'.cell? ⟨gl, 1, none⟩ = some (.int .i64 (t.num + 1)) := cell_of_row w' gl 1 _ _ (0, 0) hS; have c2 : w'.cell? ⟨gl, 2, none⟩ = some (.int .i64 (t.ep + 1)) := cell_of_row w' gl 2 _ _ (0, 0) hS; clear hS; go_simp; first | done | with_reducible rfl | (trace_state; fail))); simp only [Act.put, List.setIfInBounds_toArray, List.set_cons_zero, List.set_cons_succ])
    refine lin_act ?_
    refine wl_store1 rfl _ _ _ rfl HO8.out 0 g8 0 _ (.int .i64 (t.num + 1)) _ rfl (by rfl) (by rfl) (by rfl) (by kernel_rfl) (by rfl) (by simp [slv, wr]) ?_
    intro w10 hO10
    have HO10 := Lib.hid hO10; clear hO10 HO8
    refine LinPost.mk (HO10.out.heap (.tail _ (List.mem_append_right _ (.head _)))) ?_
    try simp only [Act.put, List.setIfInBounds_toArray, List.set_cons_zero, List.set_cons_succ]
    iterate 1 (refine lin_q ?_ rfl ?_ ?_; rotate_left 1; (focus (rintro w' -; go_simp; first | done | with_reducible rfl | (trace_state; fail))); simp only [Act.put, List.setIfInBounds_toArray, List.set_cons_zero, List.set_cons_succ])
    refine lin_act ?_
    refine wl_store1 rfl _ _ _ rfl HO10.out 0 g8 1 _ (.int .i64 (t.ep + 1)) _ rfl (by rfl) (by rfl) (by rfl) (by kernel_rfl) (by rfl) (by simp [slv, wr]) ?_
    intro w11 hO11
    have hO12 : Own w0 w11 ([(g8, .cells (slv t.up).toArray 75)] ++ (L6 ++ ([(gl, (.cells (lgv (.pointer (some ⟨bd, 0, none⟩)) ⟨t.num + 1, t.ep + 1, t.half, ((a + needR rs : Nat) : Int), t.first + rs.length, false⟩).toArray 82))] ++ (X ++ ((g5, .cells (slv t).toArray 75) :: R))))) := hO11
    have HO12 := Lib.hid hO12.rot; clear hO11 hO12 HO10
    refine LinPost.mk (HO12.out.heap (List.mem_append_right _ (.tail _ (.head _)))) ?_
    try simp only [Act.put, List.setIfInBounds_toArray, List.set_cons_zero, List.set_cons_succ]
    refine lin_nil ?_
    go_wp2_with fail
    have HO13 := Lib.hid HO12.out.drew; clear HO12
    refine wp_region_lin (fun w' => w'.heap[g8]? = some (.cells (slv t.up).toArray 75)) 6 [(0, true), (1, true), (2, true), (3, false), (4, false), (5, true)] (by kernel_rfl) (by kernel_rfl) (fun _ _ d _ _ h => by cases d <;> exact h) (HO13.out.heap (List.mem_append_right _ (.head _))) ?_
    generalize w11.drew = w12 at *
    simp only [List.map_cons, List.map_nil, pick_zero, pick_succ, List.drop_succ_cons, List.drop_zero]
    refine lin_load rfl _ _ rfl g8 0 (slv t.up) (slv t.up) _ (by rfl) _ Try.underlying75 rfl (slot_size t.up) (by rfl) (fun w' hS => hS) ?_
    simp only [Act.put, List.setIfInBounds_toArray, List.set_cons_zero, List.set_cons_succ]
    iterate 1 (refine lin_q ?_ rfl ?_ ?_; rotate_left 1; (focus (rintro w' -; go_simp; first | done | with_reducible rfl | (trace_state; fail))); simp only [Act.put, List.setIfInBounds_toArray, List.set_cons_zero, List.set_cons_succ])
    refine lin_load rfl _ _ rfl g8 0 (slv t.up) (slv t.up) _ (by rfl) _ Try.underlying75 rfl (slot_size t.up) (by rfl) (fun w' hS => hS) ?_
    simp only [Act.put, List.setIfInBounds_toArray, List.set_cons_zero, List.set_cons_succ]
    refine lin_act ?_
    have hcall := place_c HO13.out t.up HUP.out.num.1
    refine wl_call rfl _ _ _ (by go_simp) hcall ?_
    clear hcall
    rintro e w13 ⟨rfl, hO14⟩
    have HO14 := Lib.hid hO14; clear hO14 HO13
    refine ⟨_, rfl, LinPost.mk (HO14.out.heap (List.mem_append_right _ (.head _))) ?_⟩
    simp only [Act.put, List.setIfInBounds_toArray, List.set_cons_zero, List.set_cons_succ]
    refine lin_act ?_
    have hcall := put_c HD6.out HO14.out t.up HUP.out (t.up.num % 2) (by have := HP1.out; omega)
    rw [show s1.putS (t.up.num % 2) t.up.sec = res from HOP2.out.symm] at hcall
    refine wl_call rfl _ _ _ (by go_simp) hcall ?_
    clear hcall
    rintro e w15 ⟨rfl, L15, hd15, hO15⟩
    refine ⟨_, rfl, LinPost.mk (hO15.heap (List.mem_append_right _ (.head _))) ?_⟩
    have HD15 := Lib.hid hd15
    have HO16 := Lib.hid (hO15.sub ((List.Sublist.refl L15).append ((List.Sublist.refl _).cons _)))
    clear hd15 hO15 HO14
    simp only [Act.put, List.setIfInBounds_toArray, List.set_cons_zero, List.set_cons_succ]
    iterate 1 (refine lin_q ?_ rfl ?_ ?_; rotate_left 1; (focus (rintro w' -; go_simp; first | done | with_reducible rfl | (trace_state; fail))); simp only [Act.put, List.setIfInBounds_toArray, List.set_cons_zero, List.set_cons_succ])
    refine lin_nil ?_
    obtain ⟨s2, r2⟩ := res
    simp only at HD15
    simp only []
    by_cases hr2 : r2 = 0
    · subst hr2
      go_wp2
      go_ret3
      exact .inl ⟨rfl, _, rv, X, L15, _, rfl, ⟨gl, rfl, rfl⟩, HROWS.out, HD15.out, HO16.out.sub ((List.Sublist.refl L15).append ((List.Sublist.refl [_]).append ((List.Sublist.refl X).append ((List.Sublist.refl R).cons _))))⟩
    · have hne : (r2 != 0) = true := bne_iff_ne.2 hr2
      have HR := Lib.hid hr2
      clear hr2
      go_wp2
      go_ret3
      exact .inr ⟨HR.out, rfl, L15, HD15.out, HO16.out.sub ((List.Sublist.refl L15).append (((List.Sublist.refl R).cons _).trans (List.sublist_append_right X _) |>.trans (List.sublist_append_right [_] _)))⟩
  · rw [if_neg hr1] at hOP
    have hne : (r1 != 0) = true := bne_iff_ne.2 hr1
    subst hOP
    have HR := Lib.hid hr1
    clear hr1 HOP
    go_wp2
    go_ret3
    exact .inr ⟨HR.out, rfl, L6, HD6.out, by have := HO6.out; exact this.sub ((List.Sublist.refl L6).append (((List.Sublist.refl R).cons _).trans (List.sublist_append_right X _) |>.trans (List.sublist_append_right Lg _)))⟩
end
end Go.Proofs.Ytdndkapfaiplnaa
