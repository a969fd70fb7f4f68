/-
  Package log: put a slot, tell a slot.
-/
import Derived.Test.YtdndkapfaiplnaaLog1
namespace Go.Proofs.Ytdndkapfaiplnaa
set_option linter.unusedVariables false
set_option linter.unusedSimpArgs false
set_option maxRecDepth 20000
open Go.RowKit

/-- A sector is written and flushed. -/
def DSt.putS (s : DSt) (at_ : Int) (x : List Int) : DSt × Int := if s.writeE at_ x = 0 then ((s.write at_ x).flush, (s.write at_ x).flushE) else (s.write at_ x, s.writeE at_ x)
section
variable {w0 w : World} {R L : Blks} {d : Value} {s : DSt}
set_option maxHeartbeats 4000000 in
theorem put_c (hd : IsDisk d s L) (hO : Own w0 w (L ++ R)) (t : Slot) (ht : t.Ok) (at_ : Int) (hpl : s.pend.length < 1000000) :
    Calls Try.prog 41 #[.agg (slv t).toArray, d, .int .i64 at_] w (HasDisk w0 R d (s.putS at_ t.sec).1 (.int .i64 (s.putS at_ t.sec).2)) := by
  have HO := Lib.hid hO; have HD := Lib.hid hd; have HT := Lib.hid ht
  clear hO hd ht
  obtain ⟨⟨sp, rp⟩, hp⟩ : ∃ p, s.putS at_ t.sec = p := ⟨_, rfl⟩
  rw [hp]
  have HP := Lib.hid hp; clear hp
  go_enter Try.func41, Try.ntmps41
  go_wp2_with (first | (refine wl_box rfl _ _ rfl HO.out _ (by rfl) ?_; intro g w1 hO1; have HO1 := Lib.hid hO1.drew; clear hO1 HO))
  refine wp_region_lin (fun w' => w'.heap[g]? = some (.cells (slv t).toArray 75)) 13 [(0, true), (1, true), (2, true), (3, true), (4, true), (5, true), (6, false), (7, false), (8, true), (9, true), (10, true), (11, true), (12, true)] (by kernel_rfl) (by kernel_rfl) (fun _ _ d _ _ h => by cases d <;> exact h) (HO1.out.heap (.head _)) ?_
  simp only [List.map_cons, List.map_nil, pick_zero, pick_succ, List.drop_succ_cons, List.drop_zero]
  iterate 4 (refine lin_q ?_ rfl ?_ ?_; rotate_left 1; (focus (rintro w' hS; have c0 : w'.cell? ⟨g, 0, none⟩ = some (.int .i64 t.num) := cell_of_row w' g 0 _ _ (0, 0) hS; have c1 : w'.cell? ⟨g, 1, none⟩ = some (.int .i64 t.ep) := cell_of_row w' g 1 _ _ (0, 0) hS; clear hS; go_simp; first | done | with_reducible rfl | (trace_state; fail))); simp only [Act.put, List.setIfInBounds_toArray, List.set_cons_zero, List.set_cons_succ])
  refine lin_q _ rfl (fun w' _ => by go_simp; rfl) ?_
  simp only [Act.put, List.setIfInBounds_toArray, List.set_cons_zero, List.set_cons_succ]
  refine lin_load rfl _ _ rfl g 0 (slv t) (slv t) _ (by rfl) _ Try.underlying75 rfl (slot_size t) (by rfl) (fun w' hS => hS) ?_
  simp only [Act.put, List.setIfInBounds_toArray, List.set_cons_zero, List.set_cons_succ]
  refine lin_act ?_
  generalize w1.drew = w2 at *
  have hcall := slbytes_c HO1.out t HT.out
  refine wl_call rfl _ _ _ (by go_simp) hcall ?_
  clear hcall
  rintro e w3 ⟨v3, L3, rfl, h3, hO3⟩
  have HO3 := Lib.hid hO3; have H3 := Lib.hid h3
  clear hO3 h3 HO1
  refine ⟨_, rfl, LinPost.mk (HO3.out.right.heap (.head _)) ?_⟩
  simp only [Act.put, List.setIfInBounds_toArray, List.set_cons_zero, List.set_cons_succ]
  refine lin_act ?_
  have hcall := seal_ok HO3.out t.ep t.num 0 1 v3 t.by (H3.out.rd sub_here) (Slot.okSeal HT.out)
  refine wl_call rfl _ _ _ (by go_simp) hcall ?_
  clear hcall
  rintro e w4 ⟨v4, L4, rfl, h4, hO4⟩
  have HO4 := Lib.hid hO4; have H4 := Lib.hid h4
  clear hO4 h4 HO3 H3
  refine ⟨_, rfl, LinPost.mk (HO4.out.right.right.heap (.head _)) ?_⟩
  simp only [Act.put, List.setIfInBounds_toArray, List.set_cons_zero, List.set_cons_succ]
  iterate 5 (refine lin_q ?_ rfl ?_ ?_; rotate_left 1; (focus (rintro w' -; go_simp; first | done | with_reducible rfl | (trace_state; fail))); simp only [Act.put, List.setIfInBounds_toArray, List.set_cons_zero, List.set_cons_succ])
  refine lin_nil ?_
  have hO5 : Own w0 w4 (L ++ (L4 ++ R)) := Own.rot (HO4.out.sub (by simp))
  have HO5 := Lib.hid hO5
  clear hO5 HO4
  go_wp2_with fail
  by_cases h : s.writeE at_ t.sec = 0
  · have hp : (s.write at_ t.sec).flush = sp ∧ (s.write at_ t.sec).flushE = rp := by have := HP.out; unfold DSt.putS at this; rw [if_pos h] at this; exact Prod.mk.inj this
    obtain ⟨rfl, rfl⟩ := hp
    have hcall := write_is HD.out HO5.out at_ v4 t.sec (H4.out.rd sub_here) hpl _ 0 rfl h
    with_reducible refine hcall.mono ?_
    clear hcall HD H4 HO5 h HP
    rintro e w6 ⟨rfl, L6, hd6, hO6⟩
    have HO6 := Lib.hid hO6; have HD6 := Lib.hid hd6
    clear hO6 hd6
    go_wp2_with fail
    have hcall := flush_c HD6.out HO6.out
    with_reducible refine hcall.mono ?_
    clear hcall
    rintro e w7 ⟨rfl, L7, hd7, hO7⟩
    have HO7 := Lib.hid hO7; have HD7 := Lib.hid hd7
    clear hO7 hd7
    go_wp2
    go_ret
    exact ⟨rfl, L7, HD7.out, HO7.out.rot.right⟩
  · have hp : s.write at_ t.sec = sp ∧ s.writeE at_ t.sec = rp := by have := HP.out; unfold DSt.putS at this; rw [if_neg h] at this; exact Prod.mk.inj this
    obtain ⟨rfl, rfl⟩ := hp
    have hne : (s.writeE at_ t.sec != 0) = true := by simpa using h
    have hcall := write_is HD.out HO5.out at_ v4 t.sec (H4.out.rd sub_here) hpl _ _ rfl rfl
    with_reducible refine hcall.mono ?_
    clear hcall HD H4 HO5 h HP
    rintro e w6 ⟨rfl, L6, hd6, hO6⟩
    have HO6 := Lib.hid hO6; have HD6 := Lib.hid hd6
    clear hO6 hd6
    generalize s.writeE at_ t.sec = r at *
    go_wp2
    go_ret
    exact ⟨rfl, L6, HD6.out, HO6.out.rot.right⟩

def isSlot (o : Opened) : Bool := decide (o.r = 0 ∧ o.p = 0 ∧ o.q = 1 ∧ o.b.length = 6 ∧ o.b.getD 0 0 ≤ 1)
def slotIn (o : Opened) : Slot := ⟨o.s, o.e, o.b.getD 0 0, o.b.getD 1 0 * 65536 + o.b.getD 2 0 * 256 + o.b.getD 3 0, o.b.getD 4 0 * 256 + o.b.getD 5 0⟩
/-- Which slot a sector is. -/
def slotR (xs : List Int) : Slot × Bool := if isSlot (openR xs) then (slotIn (openR xs), true) else (noSlot, false)
def GaveSlot (w0 : World) (R : Blks) (t : Slot) (b : Bool) (e : Ending) (w' : World) : Prop := e = .returned (.tuple #[.agg (slv t).toArray, .bool b]) ∧ Own w0 w' R
theorem slot_cells {w0 w : World} {X : Blks} {g : Nat} {t : Slot} (h : Own w0 w X) (hm : (g, Obj.cells (slv t).toArray 75) ∈ X) :
    w.cell? ⟨g, 0, none⟩ = some (.int .i64 t.num) ∧ w.cell? ⟨g, 1, none⟩ = some (.int .i64 t.ep) ∧ w.cell? ⟨g, 2, none⟩ = some (.int .i64 t.half) ∧ w.cell? ⟨g, 3, none⟩ = some (.int .i64 t.first) ∧ w.cell? ⟨g, 4, none⟩ = some (.int .i64 t.begun) :=
  ⟨h.cell hm 0, h.cell hm 1, h.cell hm 2, h.cell hm 3, h.cell hm 4⟩
set_option maxHeartbeats 4000000 in
theorem slotOf_no (hO : Own w0 w R) (v : Value) (xs : List Int) (hb : Rd w0 R v xs) (hB : Byt xs) (h : isSlot (openR xs) = false) :
    Calls Try.prog 59 #[v] w (GaveSlot w0 R noSlot false) := by
  obtain ⟨o, ho⟩ : ∃ o, openR xs = o := ⟨_, rfl⟩
  rw [ho] at h
  have HO := Lib.hid hO; have HB := Lib.hid hb; have HY := Lib.hid hB; have HX := Lib.hid ho
  have hbyt := openR_byt hB
  rw [ho] at hbyt
  clear hO hb hB ho
  obtain ⟨oe, os, op, oq, ob, or_⟩ := o
  simp only [isSlot] at *
  have h0 := getD_byt hbyt 0
  clear hbyt
  have key : (or_ ≠ 0 ∨ or_ = 0 ∧ (op ≠ 0 ∨ op = 0 ∧ (oq ≠ 1 ∨ oq = 1 ∧ (ob.length ≠ 6 ∨ ob.length = 6 ∧ 1 < ob.getD 0 0)))) := by
    simp only [decide_eq_false_iff_not] at h
    omega
  clear h
  rcases key with h | ⟨rfl, h | ⟨rfl, h | ⟨rfl, h | ⟨h, h1⟩⟩⟩⟩
  case inl => have ha : (or_ != 0) = true := bne_iff_ne.2 h
              clear h
              go_enter Try.func59, Try.ntmps59
              go_wp2_with (refine wl_alloc rfl _ rfl HO.out _ (alloc_slot _) ?_; intro g w1 hO1; have HO1 := Lib.hid hO1; clear hO1 HO)
              have hcall := open_is HO1.out v xs (HB.out.more (A := [_])) HY.out _ HX.out
              with_reducible refine hcall.mono ?_
              clear hcall HB HY HX
              rintro en w2 ⟨v2, L2, rfl, h2, hO2⟩
              simp only at h2
              simp only []
              obtain ⟨A2, c2, rfl⟩ := h2.val
              have HO2 := Lib.hid (Own.rot (B := [_]) hO2); have H2 := Lib.hid h2
              clear hO2 h2 HO1
              go_wp2_with (first | (refine wl_alloc rfl _ rfl HO2.out _ (alloc_mark _) ?_; intro gm w5 hO5; have HO5 := Lib.hid hO5; clear hO5 HO2) | (refine wl_store rfl _ _ _ rfl HO5.out 0 gm 0 _ [Value.int .i64 oe, Value.int .i64 os] _ rfl (by rfl) (by rfl) mark_size (one_2i _ _) (by simp) ?_; intro w6 hO6; have HO6 := Lib.hid hO6; clear hO6 HO5) | (refine wl_build rfl _ _ rfl _ (by exact build_slot0 _) ?_) | (refine wl_store rfl _ _ _ rfl HO6.out 1 g 0 _ (slv noSlot) _ rfl (by rfl) (by rfl) (slot_size _) (one_slv _) (by simp [slv]) ?_; intro w7 hO7; have HO7 := Lib.hid hO7; clear hO7 HO6))
              have hO7 := HO7.out
              have hO8 : Own w0 w7 ((gm, .cells [Value.int .i64 oe, Value.int .i64 os].toArray 44) :: (g, .cells (slv noSlot).toArray 75) :: (_ ++ R)) := hO7
              obtain ⟨d0, d1, d2, d3, d4⟩ := slot_cells hO8 (.tail _ (.head _))
              exact bodyPost_ret (v := .tuple #[.agg (slv noSlot).toArray, .bool false]) (by simp [results, Try.results59, go_sem, d0, d1, d2, d3, d4, slv, noSlot]) rfl ⟨rfl, hO8.tail.tail.right⟩
  case inr.inl => have ha : (op != 0) = true := bne_iff_ne.2 h
                  clear h
                  go_enter Try.func59, Try.ntmps59
                  go_wp2_with (refine wl_alloc rfl _ rfl HO.out _ (alloc_slot _) ?_; intro g w1 hO1; have HO1 := Lib.hid hO1; clear hO1 HO)
                  have hcall := open_is HO1.out v xs (HB.out.more (A := [_])) HY.out _ HX.out
                  with_reducible refine hcall.mono ?_
                  clear hcall HB HY HX
                  rintro en w2 ⟨v2, L2, rfl, h2, hO2⟩
                  simp only at h2
                  simp only []
                  obtain ⟨A2, c2, rfl⟩ := h2.val
                  have HO2 := Lib.hid (Own.rot (B := [_]) hO2); have H2 := Lib.hid h2
                  clear hO2 h2 HO1
                  go_wp2_with (first | (refine wl_alloc rfl _ rfl HO2.out _ (alloc_mark _) ?_; intro gm w5 hO5; have HO5 := Lib.hid hO5; clear hO5 HO2) | (refine wl_store rfl _ _ _ rfl HO5.out 0 gm 0 _ [Value.int .i64 oe, Value.int .i64 os] _ rfl (by rfl) (by rfl) mark_size (one_2i _ _) (by simp) ?_; intro w6 hO6; have HO6 := Lib.hid hO6; clear hO6 HO5) | (refine wl_build rfl _ _ rfl _ (by exact build_slot0 _) ?_) | (refine wl_store rfl _ _ _ rfl HO6.out 1 g 0 _ (slv noSlot) _ rfl (by rfl) (by rfl) (slot_size _) (one_slv _) (by simp [slv]) ?_; intro w7 hO7; have HO7 := Lib.hid hO7; clear hO7 HO6))
                  have hO7 := HO7.out
                  have hO8 : Own w0 w7 ((gm, .cells [Value.int .i64 oe, Value.int .i64 os].toArray 44) :: (g, .cells (slv noSlot).toArray 75) :: (_ ++ R)) := hO7
                  obtain ⟨d0, d1, d2, d3, d4⟩ := slot_cells hO8 (.tail _ (.head _))
                  exact bodyPost_ret (v := .tuple #[.agg (slv noSlot).toArray, .bool false]) (by simp [results, Try.results59, go_sem, d0, d1, d2, d3, d4, slv, noSlot]) rfl ⟨rfl, hO8.tail.tail.right⟩
  case inr.inr.inl => have ha : (oq != 1) = true := bne_iff_ne.2 h
                      clear h
                      go_enter Try.func59, Try.ntmps59
                      go_wp2_with (refine wl_alloc rfl _ rfl HO.out _ (alloc_slot _) ?_; intro g w1 hO1; have HO1 := Lib.hid hO1; clear hO1 HO)
                      have hcall := open_is HO1.out v xs (HB.out.more (A := [_])) HY.out _ HX.out
                      with_reducible refine hcall.mono ?_
                      clear hcall HB HY HX
                      rintro en w2 ⟨v2, L2, rfl, h2, hO2⟩
                      simp only at h2
                      simp only []
                      obtain ⟨A2, c2, rfl⟩ := h2.val
                      have HO2 := Lib.hid (Own.rot (B := [_]) hO2); have H2 := Lib.hid h2
                      clear hO2 h2 HO1
                      go_wp2_with (first | (refine wl_alloc rfl _ rfl HO2.out _ (alloc_mark _) ?_; intro gm w5 hO5; have HO5 := Lib.hid hO5; clear hO5 HO2) | (refine wl_store rfl _ _ _ rfl HO5.out 0 gm 0 _ [Value.int .i64 oe, Value.int .i64 os] _ rfl (by rfl) (by rfl) mark_size (one_2i _ _) (by simp) ?_; intro w6 hO6; have HO6 := Lib.hid hO6; clear hO6 HO5) | (refine wl_build rfl _ _ rfl _ (by exact build_slot0 _) ?_) | (refine wl_store rfl _ _ _ rfl HO6.out 1 g 0 _ (slv noSlot) _ rfl (by rfl) (by rfl) (slot_size _) (one_slv _) (by simp [slv]) ?_; intro w7 hO7; have HO7 := Lib.hid hO7; clear hO7 HO6))
                      have hO7 := HO7.out
                      have hO8 : Own w0 w7 ((gm, .cells [Value.int .i64 oe, Value.int .i64 os].toArray 44) :: (g, .cells (slv noSlot).toArray 75) :: (_ ++ R)) := hO7
                      obtain ⟨d0, d1, d2, d3, d4⟩ := slot_cells hO8 (.tail _ (.head _))
                      exact bodyPost_ret (v := .tuple #[.agg (slv noSlot).toArray, .bool false]) (by simp [results, Try.results59, go_sem, d0, d1, d2, d3, d4, slv, noSlot]) rfl ⟨rfl, hO8.tail.tail.right⟩
  case inr.inr.inr.inl => have ha : ((ob.length : Int) != 6) = true := bne_iff_ne.2 (by omega)
                          clear h
                          go_enter Try.func59, Try.ntmps59
                          go_wp2_with (refine wl_alloc rfl _ rfl HO.out _ (alloc_slot _) ?_; intro g w1 hO1; have HO1 := Lib.hid hO1; clear hO1 HO)
                          have hcall := open_is HO1.out v xs (HB.out.more (A := [_])) HY.out _ HX.out
                          with_reducible refine hcall.mono ?_
                          clear hcall HB HY HX
                          rintro en w2 ⟨v2, L2, rfl, h2, hO2⟩
                          simp only at h2
                          simp only []
                          obtain ⟨A2, c2, rfl⟩ := h2.val
                          have HO2 := Lib.hid (Own.rot (B := [_]) hO2); have H2 := Lib.hid h2
                          clear hO2 h2 HO1
                          go_wp2_with (first | (refine wl_alloc rfl _ rfl HO2.out _ (alloc_mark _) ?_; intro gm w5 hO5; have HO5 := Lib.hid hO5; clear hO5 HO2) | (refine wl_store rfl _ _ _ rfl HO5.out 0 gm 0 _ [Value.int .i64 oe, Value.int .i64 os] _ rfl (by rfl) (by rfl) mark_size (one_2i _ _) (by simp) ?_; intro w6 hO6; have HO6 := Lib.hid hO6; clear hO6 HO5) | (refine wl_build rfl _ _ rfl _ (by exact build_slot0 _) ?_) | (refine wl_store rfl _ _ _ rfl HO6.out 1 g 0 _ (slv noSlot) _ rfl (by rfl) (by rfl) (slot_size _) (one_slv _) (by simp [slv]) ?_; intro w7 hO7; have HO7 := Lib.hid hO7; clear hO7 HO6))
                          have hO7 := HO7.out
                          have hO8 : Own w0 w7 ((gm, .cells [Value.int .i64 oe, Value.int .i64 os].toArray 44) :: (g, .cells (slv noSlot).toArray 75) :: (_ ++ R)) := hO7
                          obtain ⟨d0, d1, d2, d3, d4⟩ := slot_cells hO8 (.tail _ (.head _))
                          exact bodyPost_ret (v := .tuple #[.agg (slv noSlot).toArray, .bool false]) (by simp [results, Try.results59, go_sem, d0, d1, d2, d3, d4, slv, noSlot]) rfl ⟨rfl, hO8.tail.tail.right⟩
  case inr.inr.inr.inr => have hl : 0 < ob.length := by omega
                          have ha : ((ob.length : Int) != 6) = false := by rw [bne_eq_false_iff_eq]; omega
                          generalize hx0 : ob.getD 0 0 = x0 at h0 h1
                          have HX0 := Lib.hid hx0
                          clear hx0
                          go_enter Try.func59, Try.ntmps59
                          go_wp2_with (refine wl_alloc rfl _ rfl HO.out _ (alloc_slot _) ?_; intro g w1 hO1; have HO1 := Lib.hid hO1; clear hO1 HO)
                          have hcall := open_is HO1.out v xs (HB.out.more (A := [_])) HY.out _ HX.out
                          with_reducible refine hcall.mono ?_
                          clear hcall HB HY HX
                          rintro en w2 ⟨v2, L2, rfl, h2, hO2⟩
                          simp only at h2
                          simp only []
                          obtain ⟨A2, c2, rfl⟩ := h2.val
                          obtain ⟨gb, cb, sp, e2, rfl, -⟩ : ∃ gb cb sp, (Value.slice A2 ob.length c2) = .slice (some ⟨gb, 0, none⟩) ob.length cb ∧ L2 = [(gb, .cells (List.toArray (bv ob ++ sp)) 5)] ∧ True := by
                            rcases h2.2 with ⟨e, h', _⟩ | ⟨gb, cb, sp, e, e', _⟩
                            · omega
                            · exact ⟨gb, cb, sp, e, e', trivial⟩
                          cases e2
                          have hbs : ∀ w', ∀ X, Own w0 w' (X ++ ([(gb, Obj.cells (List.toArray (bv ob ++ sp)) 5)] ++ R)) → w'.cell? ⟨gb, 0, none⟩ = some (.int .u8 x0) := by
                            intro w' X hX
                            have := hX.right.cell (.head _) 0
                            rw [this, ← HX0.out]
                            clear HX0
                            cases ob with
                            | nil => simp at hl
                            | cons x xs => simp [bv]
                          have HBS := Lib.hid hbs
                          clear hbs
                          have HO2 := Lib.hid (Own.rot (B := [_]) hO2); have H2 := Lib.hid h2
                          clear hO2 h2 HO1
                          go_wp2_with (first | (refine wl_alloc rfl _ rfl HO2.out _ (alloc_mark _) ?_; intro gm w5 hO5; have HO5 := Lib.hid hO5; clear hO5 HO2) | (refine wl_store rfl _ _ _ rfl HO5.out 0 gm 0 _ [Value.int .i64 oe, Value.int .i64 os] _ rfl (by rfl) (by rfl) mark_size (one_2i _ _) (by simp) ?_; intro w6 hO6; have cb0 := HBS.out w6 [_, _] hO6; clear HBS; have HO6 := Lib.hid hO6; clear hO6 HO5) | (refine wl_build rfl _ _ rfl _ (by exact build_slot0 _) ?_) | (refine wl_store rfl _ _ _ rfl HO6.out 1 g 0 _ (slv noSlot) _ rfl (by rfl) (by rfl) (slot_size _) (one_slv _) (by simp [slv]) ?_; intro w7 hO7; have HO7 := Lib.hid hO7; clear hO7 HO6))
                          have hO7 := HO7.out
                          have hO8 : Own w0 w7 ((gm, .cells [Value.int .i64 oe, Value.int .i64 os].toArray 44) :: (g, .cells (slv noSlot).toArray 75) :: (_ ++ R)) := hO7
                          obtain ⟨d0, d1, d2, d3, d4⟩ := slot_cells hO8 (.tail _ (.head _))
                          exact bodyPost_ret (v := .tuple #[.agg (slv noSlot).toArray, .bool false]) (by simp [results, Try.results59, go_sem, d0, d1, d2, d3, d4, slv, noSlot]) rfl ⟨rfl, hO8.tail.tail.right⟩
theorem len6 : ∀ (ob : List Int), ob.length = 6 → ∃ a b c d e f, ob = [a, b, c, d, e, f]
  | [a, b, c, d, e, f], _ => ⟨a, b, c, d, e, f, rfl⟩
set_option maxHeartbeats 4000000 in
theorem slotOf_yes (hO : Own w0 w R) (v : Value) (xs : List Int) (hb : Rd w0 R v xs) (hB : Byt xs) (h : isSlot (openR xs) = true) :
    Calls Try.prog 59 #[v] w (GaveSlot w0 R (slotIn (openR xs)) true) := by
  obtain ⟨o, ho⟩ : ∃ o, openR xs = o := ⟨_, rfl⟩
  rw [ho] at h
  have HO := Lib.hid hO; have HB := Lib.hid hb; have HY := Lib.hid hB; have HX := Lib.hid ho
  have hbyt := openR_byt hB
  rw [ho] at hbyt ⊢
  clear hO hb hB ho
  obtain ⟨oe, os, op, oq, ob, or_⟩ := o
  simp only [isSlot, decide_eq_true_eq] at h hbyt
  obtain ⟨rfl, rfl, rfl, hl, hle⟩ := h
  obtain ⟨x0, x1, x2, x3, x4, x5, rfl⟩ := len6 ob hl
  have b0 := hbyt x0 (by simp)
  have b1 := hbyt x1 (by simp)
  have b2 := hbyt x2 (by simp)
  have b3 := hbyt x3 (by simp)
  have b4 := hbyt x4 (by simp)
  have b5 := hbyt x5 (by simp)
  have hle : x0 ≤ 1 := hle
  clear hbyt hl
  have hsl : slotIn ⟨oe, os, 0, 1, [x0, x1, x2, x3, x4, x5], 0⟩ = ⟨os, oe, x0, x1 * 65536 + x2 * 256 + x3, x4 * 256 + x5⟩ := rfl
  rw [hsl]
  clear hsl
  have j1 := join16 (x1 * 65536) (x2 * 256) (by omega) (by omega) (by omega) (by omega) (by omega)
  have j2 := join8 (x1 * 65536 + x2 * 256) x3 (by omega) (by omega) (by omega) b3.1 (by omega)
  have j3 := join8 (x4 * 256) x5 (by omega) (by omega) (by omega) b5.1 (by omega)
  have J1 := Lib.hid j1; have J2 := Lib.hid j2; have J3 := Lib.hid j3
  clear j1 j2 j3
  go_enter Try.func59, Try.ntmps59
  go_wp2_with (refine wl_alloc rfl _ rfl HO.out _ (alloc_slot _) ?_; intro g w1 hO1; have HO1 := Lib.hid hO1; clear hO1 HO)
  have hcall := open_is HO1.out v xs (HB.out.more (A := [_])) HY.out _ HX.out
  with_reducible refine hcall.mono ?_
  clear hcall HB HY HX
  rintro en w2 ⟨v2, L2, rfl, h2, hO2⟩
  simp only at h2
  simp only []
  obtain ⟨gb, cb, sp, rfl, rfl⟩ : ∃ gb cb sp, v2 = .slice (some ⟨gb, 0, none⟩) 6 cb ∧ L2 = [(gb, .cells (List.toArray (bv [x0, x1, x2, x3, x4, x5] ++ sp)) 5)] := by
    rcases h2.2 with ⟨e, h', _⟩ | ⟨gb, cb, sp, e, e', _⟩
    · simp at h'
    · exact ⟨gb, cb, sp, e, e'⟩
  have HO2 := Lib.hid (Own.rot (B := [_]) hO2)
  clear hO2 h2 HO1
  go_wp2_with (first | (refine wl_alloc rfl _ rfl HO2.out _ (alloc_mark _) ?_; intro gm w5 hO5; have HO5 := Lib.hid hO5; clear hO5 HO2) | (refine wl_store rfl _ _ _ rfl HO5.out 0 gm 0 _ [Value.int .i64 oe, Value.int .i64 os] _ rfl (by rfl) (by rfl) mark_size (one_2i _ _) (by simp) ?_; intro w6 hO6; have cb0 : w6.cell? ⟨gb, 0, none⟩ = some (.int .u8 x0) := hO6.cell (.tail _ (.tail _ (.head _))) 0; have HO6 := Lib.hid hO6; clear hO6 HO5))
  have HO7 : Hid (Own w0 w6 ((gm, .cells [Value.int .i64 oe, Value.int .i64 os].toArray 44) :: (g, .cells (slv noSlot).toArray 75) :: (gb, .cells (List.toArray (bv [x0, x1, x2, x3, x4, x5] ++ sp)) 5) :: R)) := HO6
  clear HO6
  have cm0 : w6.cell? ⟨gm, 0, none⟩ = some (.int .i64 oe) := HO7.out.cell (.head _) 0
  have cm1 : w6.cell? ⟨gm, 1, none⟩ = some (.int .i64 os) := HO7.out.cell (.head _) 1
  have cb1 : w6.cell? ⟨gb, 1, none⟩ = some (.int .u8 x1) := HO7.out.cell (.tail _ (.tail _ (.head _))) 1
  have cb2 : w6.cell? ⟨gb, 2, none⟩ = some (.int .u8 x2) := HO7.out.cell (.tail _ (.tail _ (.head _))) 2
  have cb3 : w6.cell? ⟨gb, 3, none⟩ = some (.int .u8 x3) := HO7.out.cell (.tail _ (.tail _ (.head _))) 3
  have cb4 : w6.cell? ⟨gb, 4, none⟩ = some (.int .u8 x4) := HO7.out.cell (.tail _ (.tail _ (.head _))) 4
  have cb5 : w6.cell? ⟨gb, 5, none⟩ = some (.int .u8 x5) := HO7.out.cell (.tail _ (.tail _ (.head _))) 5
  have v0 : IntKind.i64.wrap x0 = x0 := IntWalk.i64_in _ (by omega)
  have v1 : IntKind.i64.wrap x1 = x1 := IntWalk.i64_in _ (by omega)
  have v2 : IntKind.i64.wrap x2 = x2 := IntWalk.i64_in _ (by omega)
  have v3 : IntKind.i64.wrap x3 = x3 := IntWalk.i64_in _ (by omega)
  have v4 : IntKind.i64.wrap x4 = x4 := IntWalk.i64_in _ (by omega)
  have v5 : IntKind.i64.wrap x5 = x5 := IntWalk.i64_in _ (by omega)
  have u1 : IntKind.i64.wrap (x1 * 65536) = x1 * 65536 := IntWalk.i64_in _ (by omega)
  have u2 : IntKind.i64.wrap (x2 * 256) = x2 * 256 := IntWalk.i64_in _ (by omega)
  have u4 : IntKind.i64.wrap (x4 * 256) = x4 * 256 := IntWalk.i64_in _ (by omega)
  refine wp_region_lin (fun w' => w' = w6.drew) 35 [(0, true), (1, true), (2, true), (3, true), (4, true), (5, true), (6, true), (7, true), (8, true), (9, true), (10, true), (11, true), (12, true), (13, true), (14, true), (15, true), (16, true), (17, true), (18, true), (19, true), (20, true), (21, true), (22, true), (23, true), (24, true), (25, true), (26, true), (27, true), (28, true), (29, true), (30, true), (31, true), (32, true), (33, true), (34, false)] (by kernel_rfl) (by kernel_rfl) (fun _ _ d _ _ h => by cases d <;> exact h) rfl ?_
  simp only [List.map_cons, List.map_nil, pick_zero, pick_succ, List.drop_succ_cons, List.drop_zero]
  iterate 34 (refine lin_q ?_ rfl ?_ ?_; rotate_left 1; (focus (rintro w' rfl; go_simp; first | done | with_reducible rfl | (trace_state; fail))); simp only [Act.put, List.setIfInBounds_toArray, List.set_cons_zero, List.set_cons_succ])
  refine lin_act ?_
  refine wl_build rfl _ _ rfl _ (by exact build_slot os oe x0 (bits .or .i64 (bits .or .i64 (x1 * 65536) (x2 * 256)) x3) (bits .or .i64 (x4 * 256) x5) _) ?_
  refine LinPost.mk rfl ?_
  simp only [Act.put, List.setIfInBounds_toArray, List.set_cons_zero, List.set_cons_succ]
  refine lin_nil ?_
  rw [J1.out, J2.out, J3.out]
  clear cb0 cb1 cb2 cb3 cb4 cb5 cm0 cm1 v0 v1 v2 v3 v4 v5 u1 u2 u4
  have HO8 := Lib.hid HO7.out.drew
  clear HO7
  generalize w6.drew = w7 at *
  go_wp2_with (refine wl_store rfl _ _ _ rfl HO8.out 1 g 0 _ (slv ⟨os, oe, x0, x1 * 65536 + x2 * 256 + x3, x4 * 256 + x5⟩) _ rfl (by rfl) (by rfl) (slot_size _) (one_slv _) (by simp [slv]) ?_; intro w8 hO9; have HO9 := Lib.hid hO9; clear hO9 HO8)
  have hO8 : Own w0 w8 ((gm, .cells [Value.int .i64 oe, Value.int .i64 os].toArray 44) :: (g, .cells (slv ⟨os, oe, x0, x1 * 65536 + x2 * 256 + x3, x4 * 256 + x5⟩).toArray 75) :: ([_] ++ R)) := HO9.out
  obtain ⟨d0, d1, d2, d3, d4⟩ := slot_cells hO8 (.tail _ (.head _))
  exact bodyPost_ret (v := .tuple #[.agg (slv ⟨os, oe, x0, x1 * 65536 + x2 * 256 + x3, x4 * 256 + x5⟩).toArray, .bool true]) (by simp [results, Try.results59, go_sem, d0, d1, d2, d3, d4, slv]) rfl ⟨rfl, hO8.tail.tail.right⟩
theorem slotOf_c (hO : Own w0 w R) (v : Value) (xs : List Int) (hb : Rd w0 R v xs) (hB : Byt xs) : Calls Try.prog 59 #[v] w (GaveSlot w0 R (slotR xs).1 (slotR xs).2) := by
  unfold slotR
  cases h : isSlot (openR xs)
  · exact slotOf_no hO v xs hb hB h
  · exact slotOf_yes hO v xs hb hB h
end
end Go.Proofs.Ytdndkapfaiplnaa
