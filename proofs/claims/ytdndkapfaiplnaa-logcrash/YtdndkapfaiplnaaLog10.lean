/-
  Package log: Format.
-/
import Derived.Test.YtdndkapfaiplnaaLog7
namespace Go.Proofs.Ytdndkapfaiplnaa
set_option linter.unusedVariables false
set_option linter.unusedSimpArgs false
set_option maxRecDepth 20000
open Go.RowKit

def slot1 : Slot := ⟨1, 1, 0, 1, 1⟩
theorem slot1_ok : slot1.Ok := ⟨by decide, by decide, .inl rfl, by decide, by decide⟩
theorem Slot.sec_len (t : Slot) : t.sec.length = 32 := length_sealed _ _ _ _ _ (by simp [Slot.by])
/-- The disk behind a Format. -/
def fmtSt : DSt := { fl := (zsecs 514).set 1 slot1.sec, pend := [], left := -1, down := false }
theorem pendOf_snoc : ∀ (S : List (List Int)) (k : Nat) (x : List Int), pendOf k (S ++ [x]) = pendOf k S ++ [(k + S.length, x)]
  | [], k, x => by simp [pendOf]
  | y :: S, k, x => by
    simp only [List.cons_append, pendOf, pendOf_snoc S (k + 1) x, List.length_cons]
    rw [show k + 1 + S.length = k + (S.length + 1) by omega]
theorem zsecs_succ (i : Nat) : zsecs (i + 1) = zsecs i ++ [zsec] := List.replicate_succ'
theorem zsecs_len (i : Nat) : (zsecs i).length = i := by simp [zsecs]
theorem putS_ok {s : DSt} {a : Int} {x : List Int} (hd : s.down = false) (hl : s.left = -1) (hp : s.pend = []) (h0 : 0 ≤ a) (h1 : a < s.n) (hx : x.length = 32) : s.putS a x = ({ s with fl := s.fl.set a.toNat x }, 0) := by
  obtain ⟨e1, e2⟩ := write_go (xs := x) (refuse0 hd h0 h1) hx hl
  unfold DSt.putS
  rw [if_pos e2, e1, hp]
  simp [DSt.flush, DSt.flushE, hd, DSt.la, over, hp]
section
variable {w0 w : World} {R L : Blks} {d : Value} {s : DSt}
set_option maxHeartbeats 2000000 in
theorem format_arg (hd : IsDisk d s L) (hO : Own w0 w (L ++ R)) (hn : s.n ≠ 514) : Calls Try.prog 23 #[d] w (HasDisk w0 R d s (.int .i64 1)) := by
  have hl := len_c hd hO
  have HL := Lib.hid hl; have HO := Lib.hid hO; have HD := Lib.hid hd
  have hne : ((s.n : Int) != 514) = true := bne_iff_ne.2 (by omega)
  clear hl hO hd hn
  go_enter Try.func23, Try.ntmps23
  go_wp2_with fail
  with_reducible refine HL.out.mono ?_
  rintro e w1 ⟨rfl, rfl⟩
  clear HL
  go_wp2
  go_ret
  exact ⟨rfl, L, HD.out, HO.out⟩
theorem zsec_rd (g : Nat) (w0 : World) (R : Blks) : Rd w0 ([(g, Obj.cells (bv (List.replicate 32 0)).toArray 5)] ++ R) (.slice (some ⟨g, 0, none⟩) 32 32) zsec :=
  (isBytes_whole g zsec (by simp [zsec])).rd sub_here
set_option maxHeartbeats 4000000 in
theorem format_down (hd : IsDisk d s L) (hO : Own w0 w (L ++ R)) (hn : s.n = 514) (hdn : s.down = true) (hpl : s.pend.length ≤ 1000) : Calls Try.prog 23 #[d] w (HasDisk w0 R d s (.int .i64 8)) := by
  have hl := len_is hd hO 514 (by rw [hn]; rfl)
  have hmk := make_bytes 32 (by omega)
  have HL := Lib.hid hl; have HO := Lib.hid hO; have HD := Lib.hid hd
  have hE := write_ref (xs := zsec) (i := 0) (refuse8 hdn) (by omega)
  have HE := Lib.hid hE; have HMK := Lib.hid hmk
  clear hl hO hd hn hE hmk hdn
  go_enter Try.func23, Try.ntmps23
  go_wp2_with fail
  with_reducible refine HL.out.mono ?_
  rintro e w1 ⟨rfl, rfl⟩
  clear HL
  go_wp2
  go_loopw [10] (fun t w' => t = .int .i64 0 ∧ w' = w) (fun _ _ => 0)
  case atStart => exact ⟨rfl, rfl⟩
  case round =>
    obtain ⟨rfl, rfl⟩ := hrel
    go_wp2_with (refine wl_makeSlice rfl _ _ _ rfl HO.out _ 32 32 (by exact HMK.out _) ?_; intro g w1 hO1; have HO1 := Lib.hid (Own.rot (A := [_]) hO1); clear hO1 HO)
    have hcall := write_is HD.out HO1.out 0 _ zsec (zsec_rd g w0 R) (by omega) _ _ HE.out.1 HE.out.2
    with_reducible refine hcall.mono ?_
    clear hcall
    rintro e w2 ⟨rfl, L2, hd2, hO2⟩
    have HD2 := Lib.hid hd2; have HO2 := Lib.hid hO2
    clear hd2 hO2 HO1 HD
    go_wp2
    go_ret
    exact ⟨rfl, L2, HD2.out, HO2.out.rot.tail⟩
theorem format_step {s : DSt} (hdn : s.down = false) (hl : s.left = -1) (hn : s.n = 514) (i : Nat) (hi : i < 514) : (s.put 0 (zsecs i)).write i zsec = s.put 0 (zsecs (i + 1)) ∧ (s.put 0 (zsecs i)).writeE i zsec = 0 := by
  have h := write_go (s := s.put 0 (zsecs i)) (i := (i : Int)) (xs := zsec) (refuse0 hdn (by omega) (by show (i : Int) < s.n; omega)) (by simp [zsec]) hl
  refine ⟨h.1.trans ?_, h.2⟩
  unfold DSt.put
  rw [zsecs_succ, pendOf_snoc, zsecs_len]
  simp
theorem format_la {s : DSt} (hn : s.n = 514) : (s.put 0 (zsecs 514)).la = zsecs 514 := by
  apply List.ext_getElem?
  intro j
  rw [put_la s 0 (zsecs 514) (by rw [zsecs_len]; omega) j, zsecs_len]
  by_cases hj : j < 514
  · rw [if_pos (by omega)]; rfl
  · rw [if_neg (by omega), List.getElem?_eq_none (by rw [DSt.length_la]; omega), List.getElem?_eq_none (by rw [zsecs_len]; omega)]
theorem format_end {s : DSt} (hdn : s.down = false) (hl : s.left = -1) (hn : s.n = 514) : (s.put 0 (zsecs 514)).flush.putS 1 slot1.sec = (fmtSt, 0) ∧ (s.put 0 (zsecs 514)).flushE = 0 := by
  have h1 : (s.put 0 (zsecs 514)).down = false := hdn
  have h2 : (s.put 0 (zsecs 514)).flush = { fl := zsecs 514, pend := [], left := -1, down := false } := by
    unfold DSt.flush
    rw [if_neg (by rw [h1]; simp), format_la hn]
    show ({ fl := zsecs 514, pend := [], left := s.left, down := s.down } : DSt) = _
    rw [hdn, hl]
  refine ⟨?_, by unfold DSt.flushE; rw [if_neg (by rw [h1]; simp)]⟩
  rw [h2, putS_ok rfl rfl rfl (by omega) (by show (1 : Int) < ((zsecs 514).length : Int); rw [zsecs_len]; omega) slot1.sec_len]
  rfl
set_option maxHeartbeats 8000000 in
theorem format_ok (hd : IsDisk d s L) (hO : Own w0 w (L ++ R)) (hn : s.n = 514) (hdn : s.down = false) (hlf : s.left = -1) (hpl : s.pend.length ≤ 1000) : Calls Try.prog 23 #[d] w (HasDisk w0 R d fmtSt (.int .i64 0)) := by
  have hl := len_is hd hO 514 (by rw [hn]; rfl)
  have hmk := make_bytes 32 (by omega)
  have HL := Lib.hid hl; have HO := Lib.hid hO; have HD := Lib.hid hd
  have HS := Lib.hid (format_step hdn hlf hn); have HMK := Lib.hid hmk; have HE := Lib.hid (format_end hdn hlf hn)
  have hp0 : s.put 0 (zsecs 0) = s := by unfold DSt.put; simp [zsecs, pendOf]
  have HP0 := Lib.hid hp0
  clear hl hO hd hn hmk hdn hlf hp0
  go_enter Try.func23, Try.ntmps23
  go_wp2_with fail
  with_reducible refine HL.out.mono ?_
  rintro e w1 ⟨rfl, rfl⟩
  clear HL
  go_wp2
  go_loopw [10] (fun t w' => ∃ i : Nat, i ≤ 514 ∧ t = .int .i64 i ∧ Hid (∃ Li, IsDisk d (s.put 0 (zsecs i)) Li ∧ Own w0 w' (Li ++ R))) (fun t _ => 514 - (intOf t).toNat)
  case atStart => exact ⟨0, Nat.zero_le _, rfl, L, by rw [HP0.out]; exact HD.out, HO.out⟩
  case round =>
    obtain ⟨i, hi, rfl, HR⟩ := hrel
    clear HO HD HP0
    obtain ⟨Li, hdi, hOi⟩ := HR.out
    have HD := Lib.hid hdi; have HO := Lib.hid hOi
    clear hdi hOi HR
    by_cases hlt : i < 514
    · have hst := HS.out i hlt
      have HST := Lib.hid hst
      have hpe : (s.put 0 (zsecs i)).pend.length < 1000000 := by unfold DSt.put; simp [length_pendOf, zsecs_len]; omega
      have HPE := Lib.hid hpe
      clear hst hpe
      have hiI : (i : Int) < 514 := by omega
      go_wp2_with (refine wl_makeSlice rfl _ _ _ rfl HO.out _ 32 32 (by exact HMK.out _) ?_; intro g w1 hO1; have HO1 := Lib.hid (Own.rot (A := [_]) hO1); clear hO1 HO)
      have hcall := write_is HD.out HO1.out (i : Int) _ zsec (zsec_rd g w0 R) HPE.out _ _ HST.out.1 HST.out.2
      with_reducible refine hcall.mono ?_
      clear hcall
      rintro e w2 ⟨rfl, L2, hd2, hO2⟩
      have HD2 := Lib.hid hd2; have HO2 := Lib.hid hO2.rot.tail
      clear hd2 hO2 HO1 HD
      go_wp2
      go_roundw
      case rel => exact ⟨i + 1, by omega, by go_num, L2, HD2.out, HO2.out⟩
      case measure => simp [intOf]; omega
    · obtain rfl : i = 514 := by omega
      go_wp2_with fail
      have hcall := flush_is HD.out HO.out _ 0 rfl HE.out.2
      with_reducible refine hcall.mono ?_
      clear hcall
      rintro e w2 ⟨rfl, L2, hd2, hO2⟩
      have HD2 := Lib.hid hd2; have HO2 := Lib.hid hO2
      clear hd2 hO2 HO HD
      go_wp2_with (first | (refine wl_build rfl _ _ rfl _ (by exact build_slot 1 1 0 1 1 _) ?_) | (refine wl_alloc rfl _ rfl HO2.out _ (alloc_slot _) ?_; intro g6 w3 hO3; have HO3 := Lib.hid hO3; clear hO3 HO2) | (refine wl_store rfl _ _ _ rfl HO3.out 0 g6 0 _ (slv slot1) _ rfl (by rfl) (by rfl) (slot_size _) (one_slv _) (by simp [slv]) ?_; intro w4 hO4; have HO4 := Lib.hid (Own.rot (A := [_]) hO4.drew); clear hO4 HO3))
      refine wp_region_lin (fun w' => w'.heap[g6]? = some (.cells (slv slot1).toArray 75)) 6 [(0, true), (1, true), (2, true), (3, false), (4, false), (5, true)] (by kernel_rfl) (by kernel_rfl) (fun _ _ d _ _ h => by cases d <;> exact h) (HO4.out.heap (List.mem_append_right _ (.head _))) ?_
      generalize w4.drew = w5 at *
      simp only [List.map_cons, List.map_nil, pick_zero, pick_succ, List.drop_succ_cons, List.drop_zero]
      refine lin_load rfl _ _ rfl g6 0 (slv slot1) (slv slot1) _ (by rfl) _ Try.underlying75 rfl (slot_size _) (by rfl) (fun w' hS => hS) ?_
      simp only [Act.put, List.setIfInBounds_toArray, List.set_cons_zero, List.set_cons_succ]
      iterate 1 (refine lin_q ?_ rfl ?_ ?_; rotate_left 1; (focus (rintro w' -; go_simp; first | done | with_reducible rfl | (trace_state; fail))); simp only [Act.put, List.setIfInBounds_toArray, List.set_cons_zero, List.set_cons_succ])
      refine lin_load rfl _ _ rfl g6 0 (slv slot1) (slv slot1) _ (by rfl) _ Try.underlying75 rfl (slot_size _) (by rfl) (fun w' hS => hS) ?_
      simp only [Act.put, List.setIfInBounds_toArray, List.set_cons_zero, List.set_cons_succ]
      refine lin_act ?_
      have hcall := place_c HO4.out slot1 (by decide)
      refine wl_call rfl _ _ _ (by go_simp) hcall ?_
      clear hcall
      rintro e w6 ⟨rfl, hO6⟩
      have HO6 := Lib.hid hO6; clear hO6 HO4
      refine ⟨_, rfl, LinPost.mk (HO6.out.heap (List.mem_append_right _ (.head _))) ?_⟩
      simp only [Act.put, List.setIfInBounds_toArray, List.set_cons_zero, List.set_cons_succ]
      refine lin_act ?_
      have hpe : ((s.put 0 (zsecs 514)).flush).pend.length < 1000000 := by
        unfold DSt.flush
        split
        · unfold DSt.put; simp [length_pendOf, zsecs_len]; omega
        · simp
      have hcall := put_c HD2.out HO6.out slot1 slot1_ok (slot1.num % 2) hpe
      rw [show slot1.num % 2 = 1 from rfl, HE.out.1] at hcall
      refine wl_call rfl _ _ _ (by go_simp; rfl) hcall ?_
      clear hcall hpe
      rintro e w7 ⟨rfl, L7, hd7, hO7⟩
      refine ⟨_, rfl, LinPost.mk (hO7.heap (List.mem_append_right _ (.head _))) ?_⟩
      have HD7 := Lib.hid hd7; have HO7 := Lib.hid hO7.rot.tail
      clear hd7 hO7 HO6
      simp only [Act.put, List.setIfInBounds_toArray, List.set_cons_zero, List.set_cons_succ]
      iterate 1 (refine lin_q ?_ rfl ?_ ?_; rotate_left 1; (focus (rintro w' -; go_simp; first | done | with_reducible rfl | (trace_state; fail))); simp only [Act.put, List.setIfInBounds_toArray, List.set_cons_zero, List.set_cons_succ])
      refine lin_nil ?_
      go_wp2
      go_ret
      exact ⟨rfl, L7, HD7.out, HO7.out⟩
end
end Go.Proofs.Ytdndkapfaiplnaa
