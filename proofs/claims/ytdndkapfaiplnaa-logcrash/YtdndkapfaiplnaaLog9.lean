/-
  Package log: Turn.
-/
import Derived.Test.YtdndkapfaiplnaaLog7
import Derived.Test.YtdndkapfaiplnaaLog8
namespace Go.Proofs.Ytdndkapfaiplnaa
set_option linter.unusedVariables false
set_option linter.unusedSimpArgs false
set_option maxRecDepth 20000
open Go.RowKit

/-- The slot that a Turn writes. -/
def LSt.tslot (l : LSt) : Slot := ⟨l.num + 1, l.ep, 1 - l.half, l.nx, l.ep⟩
/-- What a Turn writes. -/
def DSt.turned (s : DSt) (l : LSt) (bs : List (List Int)) : DSt × Int :=
  if (s.lwrite (2 + (1 - l.half) * 256) l.ep l.nx bs).2 = 0 then (s.lwrite (2 + (1 - l.half) * 256) l.ep l.nx bs).1.putS ((l.num + 1) % 2) l.tslot.sec else s.lwrite (2 + (1 - l.half) * 256) l.ep l.nx bs
def LSt.turnTo (l : LSt) (bs : List (List Int)) : LSt := { l with num := l.num + 1, half := 1 - l.half, en := 2 + (1 - l.half) * 256 + needs bs, nx := l.nx + bs.length }
section
variable {w0 w : World} {R L Lg : Blks} {d v rv : Value} {s : DSt} {l : LSt} {bs : List (List Int)}
set_option maxHeartbeats 4000000 in
theorem turn_full (hd : IsDisk d s L) (hg : IsLog v d l Lg) (hO : Own w0 w (L ++ (Lg ++ R))) (hr : RdRows w0 R rv bs) (hbl : ∀ b ∈ bs, b.length ≤ 1000000) (hlb : bs.length ≤ 1000) (hnb : needs bs ≤ 1000000) (hdd : l.dead = false) (hf : 256 < needs bs) :
    Calls Try.prog 27 #[v, rv] w (HasBoth w0 R v d s l 5) := by
  have hnd := lneed_c (A := L ++ Lg) (by rw [List.append_assoc]; exact hO) hr hbl (by omega) hnb
  obtain ⟨gl, rfl, rfl⟩ := hg
  have c6 : w.cell? ⟨gl, 6, none⟩ = some (.bool false) := by have := (log_cells hO (List.mem_append_right _ (.head _))).2.2.2.2.2.2; rw [hdd] at this; exact this
  have hfI : (256 : Int) < (needs bs : Int) := by omega
  have HN := Lib.hid hnd; have HO := Lib.hid hO; have HD := Lib.hid hd
  clear hnd hO hd hdd hr hbl hf
  go_enter Try.func27, Try.ntmps27
  go_wp2_with fail
  clear c6
  with_reducible refine HN.out.mono ?_
  rintro e w1 ⟨rfl, rfl⟩
  clear HN
  go_wp2
  go_ret
  exact ⟨rfl, L, _, HD.out, ⟨gl, rfl, rfl⟩, HO.out⟩
set_option maxHeartbeats 8000000 in
theorem turn_go (hd : IsDisk d s L) (hg : IsLog v d l Lg) (hO : Own w0 w (L ++ (Lg ++ R))) (hr : RdRows w0 R rv bs) (hB : ∀ b ∈ bs, Byt b) (hN : ∀ b ∈ bs, need b ≤ 255) (hbl : ∀ b ∈ bs, b.length ≤ 1000000) (hlb : bs.length ≤ 1000) (hh : l.half = 0 ∨ l.half = 1) (hdd : l.dead = false) (hf : needs bs ≤ 256)
    (hsn : s.n = 514) (hnum : 0 ≤ l.num ∧ l.num < 16777215) (hq : 0 ≤ l.nx ∧ l.nx + bs.length ≤ 16777215) (hep : 0 ≤ l.ep ∧ l.ep ≤ 65535) (hpl : s.pend.length ≤ 1000) :
    Calls Try.prog 27 #[v, rv] w (LDid w0 R v d (s.turned l bs) l (l.turnTo bs)) := by
  have hnd := lneed_c (A := L ++ Lg) (by rw [List.append_assoc]; exact hO) hr hbl (by omega) (by omega)
  have hhn := hasNumbers_c (w := w) hg hO.rot bs.length ⟨hq.1, by omega⟩
  have hhas : l.hasN bs.length = true := by unfold LSt.hasN; rw [decide_eq_true_eq]; omega
  rw [hhas] at hhn
  obtain ⟨vs, hv1, hv2, hv3⟩ := hr
  obtain ⟨Ab, cb, hrv⟩ : ∃ A c, rv = .slice A bs.length c := by
    obtain ⟨A, c, e⟩ := (hv1 w (L ++ Lg) (by rw [List.append_assoc]; exact hO)).len
    exact ⟨A, c, by rw [e, hv2]⟩
  have hr : RdRows w0 R rv bs := ⟨vs, hv1, hv2, hv3⟩
  subst hrv
  clear hv1 hv2 hv3
  obtain ⟨gl, rfl, rfl⟩ := hg
  obtain ⟨bd, rfl⟩ := hd.ptr
  have hnn := hd.1.n
  have hst : (0 : Int) ≤ 2 + (1 - l.half) * 256 ∧ 2 + (1 - l.half) * 256 + 256 ≤ 514 := by rcases hh with h | h <;> rw [h] <;> omega
  have hwr := fun (w : World) (R : Blks) (hr : RdRows w0 R (.slice Ab bs.length cb) bs) (hO : Own w0 w (L ++ ([(gl, (.cells (lgv (.pointer (some ⟨bd, 0, none⟩)) l).toArray 82))] ++ R))) => lwrite_c hd ⟨gl, rfl, rfl⟩ hO hr hB hN (by omega) (2 + (1 - l.half) * 256) hst.1 (by rw [hsn]; push_cast; omega) hep ⟨hq.1, by omega⟩ (by omega)
  have hpp : (s.lwrite (2 + (1 - l.half) * 256) l.ep l.nx bs).1.pend.length ≤ 2000 := by
    unfold DSt.lwrite
    have := writes_pend (allSecs l.ep l.nx bs) s (2 + (1 - l.half) * 256)
    rw [length_allSecs] at this
    simp only
    split
    · simp only [DSt.flush]
      split
      · omega
      · simp
    · omega
  have c6 : w.cell? ⟨gl, 6, none⟩ = some (.bool false) := by have := (log_cells hO (List.mem_append_right _ (.head _))).2.2.2.2.2.2; rw [hdd] at this; exact this
  have hres0 : (s.lwrite (2 + (1 - l.half) * 256) l.ep l.nx bs).2 = 0 → (s.writes (2 + (1 - l.half) * 256) (allSecs l.ep l.nx bs)).2 = 0 := by
    unfold DSt.lwrite
    simp only
    split
    · intro _; assumption
    · exact id
  have hturn : s.turned l bs = if (s.lwrite (2 + (1 - l.half) * 256) l.ep l.nx bs).2 = 0 then (s.lwrite (2 + (1 - l.half) * 256) l.ep l.nx bs).1.putS ((l.num + 1) % 2) l.tslot.sec else s.lwrite (2 + (1 - l.half) * 256) l.ep l.nx bs := rfl
  have htok : l.tslot.Ok := ⟨⟨by simp only [LSt.tslot]; omega, by simp only [LSt.tslot]; omega⟩, hep, by simp only [LSt.tslot]; omega, ⟨hq.1, by simp only [LSt.tslot]; omega⟩, hep⟩
  have hst1 := start_is (m := 2 + (1 - l.half) * 256) (h := 1 - l.half) (h1 := by omega) (hm := rfl)
  have hltt : l.turnTo bs = { l with num := l.num + 1, half := 1 - l.half, en := 2 + (1 - l.half) * 256 + needs bs, nx := l.nx + bs.length } := rfl
  obtain ⟨res, hres⟩ : ∃ res, s.turned l bs = res := ⟨_, rfl⟩
  obtain ⟨lw, hlw⟩ : ∃ lw, s.lwrite (2 + (1 - l.half) * 256) l.ep l.nx bs = lw := ⟨_, rfl⟩
  rw [hres] at hturn ⊢
  rw [hlw] at hturn hres0 hpp
  have HN := Lib.hid hnd; have HHN := Lib.hid hhn; have HO := Lib.hid hO; have HW := Lib.hid hwr; have HLW := Lib.hid hlw; have HRES0 := Lib.hid hres0; have HR := Lib.hid hr; have HTURN := Lib.hid hturn; have HPP := Lib.hid hpp; have HTOK := Lib.hid htok; have HST1 := Lib.hid hst1; have HLTT := Lib.hid hltt
  clear hnd hhn hO hd hr hwr hlw hdd hB hN hres0 hturn hpp htok hres hst1 hltt hhas hbl
  have hlt : ¬ ((256 : Int) < (needs bs : Int)) := by omega
  go_enter Try.func27, Try.ntmps27
  go_wp2_with fail
  clear c6
  with_reducible refine HN.out.mono ?_
  rintro e w1 ⟨rfl, rfl⟩
  clear HN
  go_wp2_with fail
  with_reducible refine HHN.out.mono ?_
  rintro e w1 ⟨rfl, rfl⟩
  clear HHN
  go_wp2_with fail
  have HO1 := Lib.hid HO.out.drew; clear HO
  have hw1 : IntKind.i64.wrap (l.num + 1) = l.num + 1 := IntWalk.i64_in _ (by omega)
  have hw2 : IntKind.i64.wrap (1 - l.half) = 1 - l.half := IntWalk.i64_in _ (by omega)
  refine wp_region_lin (fun w' => w'.heap[gl]? = some (.cells (lgv (.pointer (some ⟨bd, 0, none⟩)) l).toArray 82)) 25 [(0, true), (1, true), (2, true), (3, true), (4, true), (5, true), (6, true), (7, true), (8, true), (9, true), (10, true), (11, true), (12, true), (13, true), (14, true), (15, true), (16, true), (17, true), (18, true), (19, true), (20, true), (21, true), (22, true), (23, false), (24, false)] (by kernel_rfl) (by kernel_rfl) (fun _ _ d _ _ h => by cases d <;> exact h) (HO1.out.heap (List.mem_append_right _ (.head _))) ?_
  generalize w.drew = w1 at *
  simp only [List.map_cons, List.map_nil, pick_zero, pick_succ, List.drop_succ_cons, List.drop_zero]
  iterate 22 (refine lin_q ?_ rfl ?_ ?_; rotate_left 1; (focus (rintro w' hS; have c0 : w'.cell? ⟨gl, 0, none⟩ = some (.pointer (some ⟨bd, 0, none⟩)) := cell_of_row w' gl 0 _ _ (0, 0) hS; have c1 : w'.cell? ⟨gl, 1, none⟩ = some (.int .i64 l.num) := cell_of_row w' gl 1 _ _ (0, 0) hS; have c2 : w'.cell? ⟨gl, 2, none⟩ = some (.int .i64 l.ep) := cell_of_row w' gl 2 _ _ (0, 0) hS; have c3 : w'.cell? ⟨gl, 3, none⟩ = some (.int .i64 l.half) := cell_of_row w' gl 3 _ _ (0, 0) hS; have c5 : w'.cell? ⟨gl, 5, none⟩ = some (.int .i64 l.nx) := cell_of_row w' gl 5 _ _ (0, 0) hS; clear hS; go_simp; first | done | with_reducible rfl | (trace_state; fail))); simp only [Act.put, List.setIfInBounds_toArray, List.set_cons_zero, List.set_cons_succ])
  refine lin_q (.agg (slv ⟨l.num + 1, l.ep, 1 - l.half, l.nx, l.ep⟩).toArray) rfl (fun w' _ => by go_simp; rfl) ?_
  simp only [Act.put, List.setIfInBounds_toArray, List.set_cons_zero, List.set_cons_succ]
  refine lin_act ?_
  refine wl_alloc rfl _ rfl HO1.out _ (alloc_slot _) ?_
  intro g5 w2 hO2
  have HO2 := Lib.hid hO2; clear hO2 HO1
  refine LinPost.mk (HO2.out.heap (.tail _ (List.mem_append_right _ (.head _)))) ?_
  simp only [Act.put, List.setIfInBounds_toArray, List.set_cons_zero, List.set_cons_succ]
  refine lin_act ?_
  refine wl_store rfl _ _ _ rfl HO2.out 0 g5 0 _ (slv ⟨l.num + 1, l.ep, 1 - l.half, l.nx, l.ep⟩) _ rfl (by rfl) (by rfl) (slot_size _) (one_slv _) (by simp [slv]) ?_
  intro w3 hO3
  have hO4 : Own w0 w3 ((g5, .cells (slv ⟨l.num + 1, l.ep, 1 - l.half, l.nx, l.ep⟩).toArray 75) :: (L ++ ([(gl, (.cells (lgv (.pointer (some ⟨bd, 0, none⟩)) l).toArray 82))] ++ R))) := hO3
  have hO5 : Own w0 w3 (L ++ ([(gl, (.cells (lgv (.pointer (some ⟨bd, 0, none⟩)) l).toArray 82))] ++ ((g5, .cells (slv ⟨l.num + 1, l.ep, 1 - l.half, l.nx, l.ep⟩).toArray 75) :: R))) := own_count hO4 (by intro p; simp only [List.count_append, List.count_cons, List.count_nil]; omega)
  have HO5 := Lib.hid hO5
  clear hO3 hO4 hO5 HO2 hw1 hw2
  refine LinPost.mk (HO5.out.heap (List.mem_append_right _ (.head _))) ?_
  try simp only [Act.put, List.setIfInBounds_toArray, List.set_cons_zero, List.set_cons_succ]
  refine lin_nil ?_
  have k2 : w3.cell? ⟨g5, 2, none⟩ = some (.int .i64 (1 - l.half)) := HO5.out.cell (List.mem_append_right _ (.tail _ (.head _))) 2
  go_wp2_with fail
  clear k2
  with_reducible refine (HST1.out _).mono ?_
  rintro e w4 ⟨rfl, rfl⟩
  go_wp2_with fail
  have hcall := HW.out _ _ (HR.out.more (A := [_])) HO5.out
  with_reducible refine hcall.mono ?_
  clear hcall HW HR HO5 HST1
  rintro e w4 ⟨rfl, L4, hd4, hO4⟩
  rw [HLW.out] at hd4
  rw [HLW.out]
  obtain ⟨s4, r4⟩ := lw
  simp only at hd4
  simp only []
  have HD4 := Lib.hid hd4; have HO4 := Lib.hid hO4
  clear hd4 hO4
  obtain ⟨zz, hzz⟩ : ∃ zz : Int, (if (s.writes (2 + (1 - l.half) * 256) (allSecs l.ep l.nx bs)).2 = 0 then 2 + (1 - l.half) * 256 + (needs bs : Int) else 0) = zz := ⟨_, rfl⟩
  rw [hzz]
  have HZZ := Lib.hid hzz
  clear hzz
  have hT := HTURN.out
  simp only at hT
  by_cases hr4 : r4 = 0
  · subst hr4
    have hz := HZZ.out
    rw [if_pos (HRES0.out rfl)] at hz
    subst hz
    simp only [if_true] at hT
    have HT := Lib.hid hT
    clear HZZ HLW HRES0 hT HTURN
    go_wp2_with fail
    have HO6 := Lib.hid HO4.out.drew; clear HO4
    refine wp_region_lin (fun w' => w'.heap[g5]? = some (.cells (slv ⟨l.num + 1, l.ep, 1 - l.half, l.nx, l.ep⟩).toArray 75) ∧ w'.heap[gl]? = some (.cells (lgv (.pointer (some ⟨bd, 0, none⟩)) l).toArray 82)) 9 [(0, true), (1, true), (2, true), (3, true), (4, true), (5, true), (6, false), (7, false), (8, true)] (by kernel_rfl) (by kernel_rfl) (fun _ _ d _ _ h => by cases d <;> exact h) ⟨HO6.out.heap (List.mem_append_right _ (.tail _ (.head _))), HO6.out.heap (List.mem_append_right _ (.head _))⟩ ?_
    generalize w4.drew = w5 at *
    simp only [List.map_cons, List.map_nil, pick_zero, pick_succ, List.drop_succ_cons, List.drop_zero]
    refine lin_load rfl _ _ rfl g5 0 (slv ⟨l.num + 1, l.ep, 1 - l.half, l.nx, l.ep⟩) (slv ⟨l.num + 1, l.ep, 1 - l.half, l.nx, l.ep⟩) _ (by rfl) _ Try.underlying75 rfl (slot_size _) (by rfl) (fun w' hS => hS.1) ?_
    simp only [Act.put, List.setIfInBounds_toArray, List.set_cons_zero, List.set_cons_succ]
    iterate 4 (refine lin_q ?_ rfl ?_ ?_; rotate_left 1; (focus (rintro w' ⟨-, hS⟩; have c0 : w'.cell? ⟨gl, 0, none⟩ = some (.pointer (some ⟨bd, 0, none⟩)) := cell_of_row w' gl 0 _ _ (0, 0) hS; have c1 : w'.cell? ⟨gl, 1, none⟩ = some (.int .i64 l.num) := cell_of_row w' gl 1 _ _ (0, 0) hS; have c2 : w'.cell? ⟨gl, 2, none⟩ = some (.int .i64 l.ep) := cell_of_row w' gl 2 _ _ (0, 0) hS; have c3 : w'.cell? ⟨gl, 3, none⟩ = some (.int .i64 l.half) := cell_of_row w' gl 3 _ _ (0, 0) hS; have c5 : w'.cell? ⟨gl, 5, none⟩ = some (.int .i64 l.nx) := cell_of_row w' gl 5 _ _ (0, 0) hS; clear hS; go_simp; first | done | with_reducible rfl | (trace_state; fail))); simp only [Act.put, List.setIfInBounds_toArray, List.set_cons_zero, List.set_cons_succ])
    refine lin_load rfl _ _ rfl g5 0 (slv ⟨l.num + 1, l.ep, 1 - l.half, l.nx, l.ep⟩) (slv ⟨l.num + 1, l.ep, 1 - l.half, l.nx, l.ep⟩) _ (by rfl) _ Try.underlying75 rfl (slot_size _) (by rfl) (fun w' hS => hS.1) ?_
    simp only [Act.put, List.setIfInBounds_toArray, List.set_cons_zero, List.set_cons_succ]
    refine lin_act ?_
    have hcall := place_c HO6.out ⟨l.num + 1, l.ep, 1 - l.half, l.nx, l.ep⟩ HTOK.out.num.1
    refine wl_call rfl _ _ _ (by go_simp) hcall ?_
    clear hcall
    rintro e w6 ⟨rfl, hO7⟩
    have HO7 := Lib.hid hO7; clear hO7 HO6
    refine ⟨_, rfl, LinPost.mk ⟨HO7.out.heap (List.mem_append_right _ (.tail _ (.head _))), HO7.out.heap (List.mem_append_right _ (.head _))⟩ ?_⟩
    simp only [Act.put, List.setIfInBounds_toArray, List.set_cons_zero, List.set_cons_succ]
    refine lin_act ?_
    have hcall := put_c HD4.out HO7.out ⟨l.num + 1, l.ep, 1 - l.half, l.nx, l.ep⟩ HTOK.out ((l.num + 1) % 2) (by have := HPP.out; omega)
    rw [show s4.putS ((l.num + 1) % 2) (Slot.sec ⟨l.num + 1, l.ep, 1 - l.half, l.nx, l.ep⟩) = res from HT.out.symm] at hcall
    refine wl_call rfl _ _ _ (by go_simp) hcall ?_
    clear hcall
    rintro e w8 ⟨rfl, L8, hd8, hO8⟩
    refine ⟨_, rfl, LinPost.mk ⟨hO8.heap (List.mem_append_right _ (.tail _ (.head _))), hO8.heap (List.mem_append_right _ (.head _))⟩ ?_⟩
    have HD8 := Lib.hid hd8; have HO8 := Lib.hid hO8
    clear hd8 hO8 HO7 HT HPP HTOK
    simp only [Act.put, List.setIfInBounds_toArray, List.set_cons_zero, List.set_cons_succ]
    iterate 1 (refine lin_q ?_ rfl ?_ ?_; rotate_left 1; (focus (rintro w' -; go_simp; first | done | with_reducible rfl | (trace_state; fail))); simp only [Act.put, List.setIfInBounds_toArray, List.set_cons_zero, List.set_cons_succ])
    refine lin_nil ?_
    obtain ⟨s8, r8⟩ := res
    simp only at HD8
    simp only []
    by_cases hr8 : r8 = 0
    · subst hr8
      have HO9 := Lib.hid (Own.rot (B := [_, _]) HO8.out); clear HO8
      go_wp2_with fail
      have HO10 := Lib.hid HO9.out.drew; clear HO9
      refine wp_region_lin (fun w' => w'.heap[g5]? = some (.cells (slv ⟨l.num + 1, l.ep, 1 - l.half, l.nx, l.ep⟩).toArray 75)) 12 [(0, true), (1, true), (2, true), (3, true), (4, true), (5, true), (6, true), (7, true), (8, false), (9, true), (10, true), (11, false)] (by kernel_rfl) (by kernel_rfl) (fun _ _ d _ _ h => by cases d <;> exact h) (HO10.out.heap (.tail _ (.head _))) ?_
      generalize w8.drew = w9 at *
      simp only [List.map_cons, List.map_nil, pick_zero, pick_succ, List.drop_succ_cons, List.drop_zero]
      iterate 8 (refine lin_q ?_ rfl ?_ ?_; rotate_left 1; (focus (rintro w' hS; have c0 : w'.cell? ⟨g5, 0, none⟩ = some (.int .i64 (l.num + 1)) := cell_of_row w' g5 0 _ _ (0, 0) hS; have c2 : w'.cell? ⟨g5, 2, none⟩ = some (.int .i64 (1 - l.half)) := cell_of_row w' g5 2 _ _ (0, 0) hS; clear hS; go_simp; first | done | with_reducible rfl | (trace_state; fail))); simp only [Act.put, List.setIfInBounds_toArray, List.set_cons_zero, List.set_cons_succ])
      refine lin_act ?_
      refine wl_store1 rfl _ _ _ rfl HO10.out 0 gl 1 _ (.int .i64 (l.num + 1)) _ rfl (by rfl) (by rfl) (by rfl) (by kernel_rfl) (by rfl) (by simp [lgv]) ?_
      intro w11 hO11
      have HO11 := Lib.hid hO11; clear hO11 HO10
      refine LinPost.mk (HO11.out.heap (.tail _ (.head _))) ?_
      try simp only [Act.put, List.setIfInBounds_toArray, List.set_cons_zero, List.set_cons_succ]
      iterate 2 (refine lin_q ?_ rfl ?_ ?_; rotate_left 1; (focus (rintro w' -; go_simp; first | done | with_reducible rfl | (trace_state; fail))); simp only [Act.put, List.setIfInBounds_toArray, List.set_cons_zero, List.set_cons_succ])
      refine lin_act ?_
      refine wl_store1 rfl _ _ _ rfl HO11.out 0 gl 3 _ (.int .i64 (1 - l.half)) _ rfl (by rfl) (by rfl) (by rfl) (by kernel_rfl) (by rfl) (by simp [lgv]) ?_
      intro w12 hO12
      have HO12 := Lib.hid hO12; clear hO12 HO11
      refine LinPost.mk (HO12.out.heap (.tail _ (.head _))) ?_
      try simp only [Act.put, List.setIfInBounds_toArray, List.set_cons_zero, List.set_cons_succ]
      refine lin_nil ?_
      have hw3 : IntKind.i64.wrap (l.nx + bs.length) = l.nx + bs.length := IntWalk.i64_in _ (by omega)
      go_wp2_with (first | (refine wl_store1 rfl _ _ _ rfl HO12.out 0 gl 4 _ (.int .i64 (2 + (1 - l.half) * 256 + needs bs)) _ rfl (by rfl) (by rfl) (by rfl) (by kernel_rfl) (by rfl) (by simp [lgv]) ?_; intro w13 hO13; have k5 : w13.cell? ⟨gl, 5, none⟩ = some (.int .i64 l.nx) := hO13.cell (.head _) 5; have HO13 := Lib.hid hO13; clear hO13 HO12) | (refine wl_store1 rfl _ _ _ rfl HO13.out 0 gl 5 _ (.int .i64 (l.nx + bs.length)) _ rfl (by rfl) (by rfl) (by rfl) (by kernel_rfl) (by rfl) (by simp [lgv]) ?_; intro w14 hO14; have HO14 := Lib.hid hO14; clear hO14 HO13))
      go_ret
      refine .inl ⟨rfl, rfl, L8, _, HD8.out, ⟨gl, rfl, rfl⟩, ?_⟩
      rw [HLTT.out]
      have h15 : Own w0 w14 ([(gl, .cells (lgv (.pointer (some ⟨bd, 0, none⟩)) { l with num := l.num + 1, half := 1 - l.half, en := 2 + (1 - l.half) * 256 + needs bs, nx := l.nx + bs.length }).toArray 82)] ++ ([(g5, .cells (slv ⟨l.num + 1, l.ep, 1 - l.half, l.nx, l.ep⟩).toArray 75)] ++ (L8 ++ R))) := HO14.out
      have h16 : Own w0 w14 ([(gl, _)] ++ (L8 ++ R)) := h15.rot.tail
      exact own_count h16 (by intro p; simp only [List.count_append, List.count_cons, List.count_nil]; omega)
    · have hne : (r8 != 0) = true := bne_iff_ne.2 hr8
      have HR8 := Lib.hid hr8
      have hfl := fail_c (v := .pointer (some ⟨gl, 0, none⟩)) (l := l) ⟨gl, rfl, rfl⟩ (Own.rot (B := [_]) HO8.out) r8
      have HFL := Lib.hid hfl
      clear hfl HO8 hr8
      go_wp2_with fail
      with_reducible refine HFL.out.mono ?_
      rintro e w3 ⟨rfl, L3, hg3, hO3⟩
      have HG3 := Lib.hid hg3; have HO3 := Lib.hid hO3
      clear hg3 hO3 HFL
      go_wp2
      go_ret
      exact .inr ⟨HR8.out, rfl, L8, L3, HD8.out, HG3.out, (HO3.out.rot).sub ((List.Sublist.refl L8).append ((List.Sublist.refl L3).append ((List.Sublist.refl R).cons _)))⟩
  · have hne : (r4 != 0) = true := bne_iff_ne.2 hr4
    rw [if_neg hr4] at hT
    subst hT
    have HR4 := Lib.hid hr4
    have hfl := fail_c (v := .pointer (some ⟨gl, 0, none⟩)) (l := l) ⟨gl, rfl, rfl⟩ (Own.rot (B := [_]) HO4.out) r4
    have HFL := Lib.hid hfl
    clear hfl HO4 hr4 HTURN HLW HRES0
    go_wp2_with fail
    with_reducible refine HFL.out.mono ?_
    rintro e w3 ⟨rfl, L3, hg3, hO3⟩
    have HG3 := Lib.hid hg3; have HO3 := Lib.hid hO3
    clear hg3 hO3 HFL
    go_wp2
    go_ret
    exact .inr ⟨HR4.out, rfl, L4, L3, HD4.out, HG3.out, (HO3.out.rot).sub ((List.Sublist.refl L4).append ((List.Sublist.refl L3).append ((List.Sublist.refl R).cons _)))⟩
end
end Go.Proofs.Ytdndkapfaiplnaa
