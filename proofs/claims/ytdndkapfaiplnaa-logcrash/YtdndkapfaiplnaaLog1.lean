/-
  Package log: a slot's bytes, its place; what a Log holds.
-/
import Derived.Test.YtdndkapfaiplnaaFrame7
namespace Go.Proofs.Ytdndkapfaiplnaa
set_option linter.unusedVariables false
set_option linter.unusedSimpArgs false
set_option maxRecDepth 20000
open Go.RowKit

structure Slot where
  num : Int
  ep : Int
  half : Int
  first : Int
  begun : Int
structure Slot.Ok (t : Slot) : Prop where
  num : 0 ≤ t.num ∧ t.num ≤ 16777215
  ep : 0 ≤ t.ep ∧ t.ep ≤ 65535
  half : t.half = 0 ∨ t.half = 1
  first : 0 ≤ t.first ∧ t.first ≤ 16777215
  begun : 0 ≤ t.begun ∧ t.begun ≤ 65535
def slv (t : Slot) : List Value := [.int .i64 t.num, .int .i64 t.ep, .int .i64 t.half, .int .i64 t.first, .int .i64 t.begun]
def noSlot : Slot := ⟨0, 0, 0, 0, 0⟩
def Slot.by (t : Slot) : List Int := [t.half, t.first / 65536, t.first / 256 % 256, t.first % 256, t.begun / 256, t.begun % 256]
/-- The sector that a slot is. -/
def Slot.sec (t : Slot) : List Int := sealed t.ep t.num 0 1 t.by
theorem Slot.byt {t : Slot} (h : t.Ok) : Byt t.by := by
  have h1 := h.half; have h2 := h.first; have h3 := h.begun
  intro x hx
  simp only [Slot.by, List.mem_cons, List.not_mem_nil, or_false] at hx
  rcases hx with rfl | rfl | rfl | rfl | rfl | rfl <;> omega
theorem Slot.okSeal {t : Slot} (h : t.Ok) : okSeal t.ep t.num 0 1 t.by.length = true := okSeal_mk ⟨h.ep.1, h.ep.2, h.num.1, h.num.2, by omega, by omega, by omega, by simp [Slot.by]⟩
theorem one_slv (t : Slot) : ∀ v ∈ slv t, v.oneCell' = true := by simp [slv]; exact ⟨rfl, rfl, rfl, rfl, rfl⟩
theorem slot_size (t : Slot) : (Try.prog.info? 75).map (·.size) = some (slv t).length := by kernel_rfl
theorem alloc_slot (w : World) : (Instr.alloc 75 true (.tuple #[])).run Try.prog w = .ok (.pointer (some ⟨w.heap.size, 0, none⟩)) (w.alloc (.cells (slv noSlot).toArray 75)) := by kernel_rfl
theorem build_slot0 (w : World) : (Instr.build 75 #[]).run Try.prog w = .ok (.agg (slv noSlot).toArray) w := by kernel_rfl
theorem build_slot (a b c d e : Int) (w : World) : (Instr.build 75 #[(0, .int .i64 a), (1, .int .i64 b), (2, .int .i64 c), (3, .int .i64 d), (4, .int .i64 e)]).run Try.prog w = .ok (.agg (slv ⟨a, b, c, d, e⟩).toArray) w := by kernel_rfl
theorem build_six (a b c d e f : Int) (w : World) : (Instr.buildSlice 27 6 #[(0, .int .u8 a), (1, .int .u8 b), (2, .int .u8 c), (3, .int .u8 d), (4, .int .u8 e), (5, .int .u8 f)]).run Try.prog w = .ok (.slice (some ⟨w.heap.size, 0, none⟩) 6 6) (w.alloc (.cells (bv [a, b, c, d, e, f]).toArray 5)) := by kernel_rfl
section
variable {w0 w : World} {R : Blks}
set_option maxHeartbeats 2000000 in
theorem slbytes_c (hO : Own w0 w R) (t : Slot) (ht : t.Ok) : Calls Try.prog 55 #[.agg (slv t).toArray] w (GotBytes w0 R t.by) := by
  obtain ⟨nu, ep, ha, fi, be⟩ := t
  have h1 := ht.half; have h2 := ht.first; have h3 := ht.begun
  simp only at h1 h2 h3
  have HO := Lib.hid hO; clear hO ht
  unfold Slot.by
  simp only
  have ha' : 0 ≤ ha ∧ ha ≤ 1 := by omega
  clear h1
  go_enter Try.func55, Try.ntmps55
  go_wp2_with (first | (refine wl_box rfl _ _ rfl HO.out _ (by rfl) ?_; intro g w1 hO1; have c2 := hO1.cell (.head _) 2; have c3 := hO1.cell (.head _) 3; have c4 := hO1.cell (.head _) 4; simp only [slv, List.getElem?_toArray, List.getElem?_cons_zero, List.getElem?_cons_succ] at c2 c3 c4; have HO1 := Lib.hid hO1; clear hO1 HO))
  go_ret
  exact ⟨_, _, rfl, isBytes_whole _ [_, _, _, _, _, _] (by simp), (Own.rot (A := [_]) (B := [_]) (HO1.out.alloc _)).tail⟩
theorem place_c (hO : Own w0 w R) (t : Slot) (h : 0 ≤ t.num) : Calls Try.prog 42 #[.agg (slv t).toArray] w (Gave w0 R (.int .i64 (t.num % 2))) := by
  obtain ⟨nu, ep, ha, fi, be⟩ := t
  simp only at h
  have HO := Lib.hid hO; clear hO
  go_enter Try.func42, Try.ntmps42
  go_wp2_with (first | (refine wl_box rfl _ _ rfl HO.out _ (by rfl) ?_; intro g w1 hO1; have c0 := hO1.cell (.head _) 0; simp only [slv, List.getElem?_toArray, List.getElem?_cons_zero, List.getElem?_cons_succ] at c0; have HO1 := Lib.hid hO1; clear hO1 HO))
  go_ret
  exact ⟨rfl, HO1.out.tail⟩
theorem start_c (w : World) (h : Int) (h1 : h = 0 ∨ h = 1) : Calls Try.prog 51 #[.int .i64 h] w fun e w' => e = .returned (.int .i64 (2 + h * 256)) ∧ w = w' := by
  rcases h1 with rfl | rfl
  all_goals
    go_enter Try.func51, Try.ntmps51
    go_wp2
    go_ret
    exact ⟨rfl, rfl⟩
end

/-- A Log: its disk, the newest slot's number, the epoch, the half, the sector behind the last record, the next record's number, out of use? -/
structure LSt where
  num : Int
  ep : Int
  half : Int
  en : Int
  nx : Int
  dead : Bool
def lgv (d : Value) (l : LSt) : List Value := [d, .int .i64 l.num, .int .i64 l.ep, .int .i64 l.half, .int .i64 l.en, .int .i64 l.nx, .bool l.dead]
def IsLog (v d : Value) (l : LSt) (L : Blks) : Prop := ∃ g, v = .pointer (some ⟨g, 0, none⟩) ∧ L = [(g, .cells (lgv d l).toArray 82)]
section
variable {w0 w : World} {R L : Blks} {v d : Value} {l : LSt}
set_option maxHeartbeats 1000000 in
theorem room_c (hl : IsLog v d l L) (hO : Own w0 w (L ++ R)) (h : l.half = 0 ∨ l.half = 1) (he : 0 ≤ l.en ∧ l.en ≤ 1000000) : Calls Try.prog 28 #[v] w (Quiet w (.int .i64 (2 + l.half * 256 + 256 - l.en))) := by
  obtain ⟨g, rfl, rfl⟩ := hl
  have c3 : w.cell? ⟨g, 3, none⟩ = some (.int .i64 l.half) := hO.cell (.head _) 3
  have c4 : w.cell? ⟨g, 4, none⟩ = some (.int .i64 l.en) := hO.cell (.head _) 4
  clear hO
  generalize l.half = a at *
  generalize l.en = b at *
  go_enter Try.func28, Try.ntmps28
  go_wp2
  refine wp_region_lin (fun w' => w' = w.drew) 10 [(0, true), (1, true), (2, true), (3, true), (6, true), (7, true), (8, true), (9, true), (4, false), (5, true)] (by kernel_rfl) (by kernel_rfl) (fun _ _ d _ _ h => by cases d <;> exact h) rfl ?_
  simp only [List.map_cons, List.map_nil, pick_zero, pick_succ, List.drop_succ_cons, List.drop_zero]
  iterate 8 (refine lin_q ?_ rfl ?_ ?_; rotate_left 1; (focus (rintro w' rfl; go_simp; first | done | with_reducible rfl | (trace_state; fail))); simp only [Act.put, List.setIfInBounds_toArray, List.set_cons_zero, List.set_cons_succ])
  refine lin_act ?_
  refine wl_call rfl _ _ _ (by go_simp) (start_c _ a h) ?_
  rintro e w3 ⟨rfl, rfl⟩
  refine ⟨_, rfl, LinPost.mk rfl ?_⟩
  simp only [Act.put, List.setIfInBounds_toArray, List.set_cons_zero, List.set_cons_succ]
  have hw : IntKind.i64.wrap (2 + a * 256 + 256) = 2 + a * 256 + 256 := IntWalk.i64_in _ (by omega)
  iterate 1 (refine lin_q ?_ rfl ?_ ?_; rotate_left 1; (focus (rintro w' rfl; go_simp; first | done | with_reducible rfl | (trace_state; fail))); simp only [Act.put, List.setIfInBounds_toArray, List.set_cons_zero, List.set_cons_succ])
  refine lin_nil ?_
  clear hw
  go_wp2
  go_ret
  exact ⟨rfl, 1, rfl⟩
theorem epoch_c (hl : IsLog v d l L) (hO : Own w0 w (L ++ R)) : Calls Try.prog 31 #[v] w fun e w' => e = .returned (.int .i64 l.ep) ∧ w = w' := by
  obtain ⟨g, rfl, rfl⟩ := hl
  have c2 : w.cell? ⟨g, 2, none⟩ = some (.int .i64 l.ep) := hO.cell (.head _) 2
  clear hO
  go_enter Try.func31, Try.ntmps31
  go_wp2
  go_ret
  exact ⟨rfl, rfl⟩
def HasLog (w0 : World) (R : Blks) (v d : Value) (l : LSt) (r : Value) (e : Ending) (w' : World) : Prop := e = .returned r ∧ ∃ L, IsLog v d l L ∧ Own w0 w' (L ++ R)
set_option maxHeartbeats 1000000 in
theorem fail_c (hl : IsLog v d l L) (hO : Own w0 w (L ++ R)) (r : Int) : Calls Try.prog 48 #[v, .int .i64 r] w (HasLog w0 R v d { l with dead := decide (r = 8) || l.dead } (.int .i64 r)) := by
  obtain ⟨g, rfl, rfl⟩ := hl
  have HO := Lib.hid hO; clear hO
  by_cases h : r = 8
  · subst h
    go_enter Try.func48, Try.ntmps48
    go_wp2_with (refine wl_store1 rfl _ _ _ rfl HO.out 0 g 6 _ (.bool true) _ rfl (by rfl) (by rfl) (by rfl) (by kernel_rfl) (by rfl) (by simp [lgv]) ?_; intro w1 hO1; have HO1 := Lib.hid hO1; clear hO1 HO)
    go_ret
    exact ⟨rfl, _, ⟨g, rfl, rfl⟩, HO1.out⟩
  · have hne : (r == 8) = false := by simpa using h
    have e : ({ l with dead := decide (r = 8) || l.dead } : LSt) = l := by simp [h]
    rw [e]
    clear h e
    go_enter Try.func48, Try.ntmps48
    go_wp2
    go_ret
    exact ⟨rfl, _, ⟨g, rfl, rfl⟩, HO.out⟩
def LSt.hasN (l : LSt) (k : Int) : Bool := decide (l.num < 16777215 ∧ max k 1 ≤ 16777215 - l.nx + 1)
set_option maxHeartbeats 1000000 in
theorem hasNumbers_c (hl : IsLog v d l L) (hO : Own w0 w (L ++ R)) (k : Nat) (hn : 0 ≤ l.nx ∧ l.nx ≤ 16777216) : Calls Try.prog 50 #[v, .int .i64 k] w fun e w' => e = .returned (.bool (l.hasN k)) ∧ w = w' := by
  obtain ⟨g, rfl, rfl⟩ := hl
  have c1 : w.cell? ⟨g, 1, none⟩ = some (.int .i64 l.num) := hO.cell (.head _) 1
  have c5 : w.cell? ⟨g, 5, none⟩ = some (.int .i64 l.nx) := hO.cell (.head _) 5
  clear hO
  unfold LSt.hasN
  generalize l.num = a at *
  generalize l.nx = b at *
  by_cases h1 : a < 16777215
  · by_cases h2 : (k : Int) < 1
    · rw [show max (k : Int) 1 = 1 by omega]
      go_enter Try.func50, Try.ntmps50
      go_wp2
      go_ret
      exact ⟨by simp [h1], rfl⟩
    · rw [show max (k : Int) 1 = k by omega]
      go_enter Try.func50, Try.ntmps50
      go_wp2
      go_ret
      exact ⟨by simp [h1], rfl⟩
  · rw [show decide (a < 16777215 ∧ max (k : Int) 1 ≤ 16777215 - b + 1) = false by simp [h1]]
    go_enter Try.func50, Try.ntmps50
    go_wp2
    go_ret
    exact ⟨rfl, rfl⟩
end
end Go.Proofs.Ytdndkapfaiplnaa
