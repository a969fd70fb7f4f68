/-
  The document's own Digits, Origin, Print, SameOrigin, Secure.
-/
import Derived.Test.YtkmfbfmmlldphaaDoorUrl2
namespace Go.Proofs.YtkmfbfmmlldphaaDoor
set_option linter.unusedVariables false
set_option linter.unusedSimpArgs false
set_option maxRecDepth 20000
open Go.RowKit

theorem strs_app (x y : List Int) : strOfNums (x ++ y) = strOfNums x ++ strOfNums y := by
  apply ba_ext
  simp [strOfNums_data]
theorem drewN_drew (w : World) (m : Nat) : w.drew.drewN m = w.drewN (m + 1) := by
  show ({ w with drawn := w.drawn + 1 + m } : World) = { w with drawn := w.drawn + (m + 1) }
  congr 1; omega
theorem digs_at (k : Nat) (h : k < 10) : ∃ d : ByteArray, ∀ w : World, (Instr.slice 9 (.string ⟨#[48, 49, 50, 51, 52, 53, 54, 55, 56, 57]⟩) (some (.int .i64 (k : Int))) none none).run Tryd.prog w = .ok (.string d) w ∧ (Instr.slice 9 (.string d) none (some (.int .i64 1)) none).run Tryd.prog w = .ok (.string (strOfNums [48 + (k : Int)])) w := by
  rcases (by omega : k = 0 ∨ k = 1 ∨ k = 2 ∨ k = 3 ∨ k = 4 ∨ k = 5 ∨ k = 6 ∨ k = 7 ∨ k = 8 ∨ k = 9) with rfl | rfl | rfl | rfl | rfl | rfl | rfl | rfl | rfl | rfl
  · exact ⟨⟨#[48, 49, 50, 51, 52, 53, 54, 55, 56, 57]⟩, fun w => ⟨by kernel_rfl, by kernel_rfl⟩⟩
  · exact ⟨⟨#[49, 50, 51, 52, 53, 54, 55, 56, 57]⟩, fun w => ⟨by kernel_rfl, by kernel_rfl⟩⟩
  · exact ⟨⟨#[50, 51, 52, 53, 54, 55, 56, 57]⟩, fun w => ⟨by kernel_rfl, by kernel_rfl⟩⟩
  · exact ⟨⟨#[51, 52, 53, 54, 55, 56, 57]⟩, fun w => ⟨by kernel_rfl, by kernel_rfl⟩⟩
  · exact ⟨⟨#[52, 53, 54, 55, 56, 57]⟩, fun w => ⟨by kernel_rfl, by kernel_rfl⟩⟩
  · exact ⟨⟨#[53, 54, 55, 56, 57]⟩, fun w => ⟨by kernel_rfl, by kernel_rfl⟩⟩
  · exact ⟨⟨#[54, 55, 56, 57]⟩, fun w => ⟨by kernel_rfl, by kernel_rfl⟩⟩
  · exact ⟨⟨#[55, 56, 57]⟩, fun w => ⟨by kernel_rfl, by kernel_rfl⟩⟩
  · exact ⟨⟨#[56, 57]⟩, fun w => ⟨by kernel_rfl, by kernel_rfl⟩⟩
  · exact ⟨⟨#[57]⟩, fun w => ⟨by kernel_rfl, by kernel_rfl⟩⟩
set_option maxHeartbeats 2000000 in
theorem digits_c : ∀ (n : Nat), n < 1000000000000000000 → ∀ (w : World), Calls Tryd.prog 37 #[.int .i64 (n : Int)] w (Quiet w (.string (strOfNums (digs n)))) := by
  intro n
  induction n using Nat.strongRecOn with
  | ind n ih =>
    intro hn w
    by_cases h : n < 10
    · obtain ⟨d, h12⟩ := digs_at n h
      obtain ⟨h1, h2⟩ := h12 w
      clear h12
      rw [digs_small h]
      have h' : (n : Int) < 10 := by omega
      clear ih
      go_enter Tryd.func37, Tryd.ntmps37
      go_wp2
      go_ret
      exact ⟨rfl, 0, rfl⟩
    · have h' : ¬ ((n : Int) < 10) := by omega
      have hst := digs_step (n := n) (by omega) (by omega)
      have hc := ih (n / 10) (by omega) (by omega)
      have hd : ∃ d : ByteArray, ∀ w' : World, (Instr.slice 9 (.string ⟨#[48, 49, 50, 51, 52, 53, 54, 55, 56, 57]⟩) (some (.int .i64 ((n % 10 : Nat) : Int))) none none).run Tryd.prog w' = .ok (.string d) w' ∧ (Instr.slice 9 (.string d) none (some (.int .i64 1)) none).run Tryd.prog w' = .ok (.string (strOfNums [48 + ((n % 10 : Nat) : Int)])) w' := digs_at (n % 10) (by omega)
      have e1 : ((n / 10 : Nat) : Int) = (n : Int) / 10 := by omega
      have e2 : ((n % 10 : Nat) : Int) = (n : Int) % 10 := by omega
      have q1 : (n : Int).tdiv 10 = (n : Int) / 10 := Int.tdiv_eq_ediv_of_nonneg (by omega)
      have q2 : (n : Int).tmod 10 = (n : Int) % 10 := Int.tmod_eq_emod_of_nonneg (by omega)
      rw [hst]
      have hl := (digs_len (n / 10)).2
      have hl1 : (strOfNums (digs (n / 10))).size ≤ 21 := by rw [strOfNums_size]; exact hl
      have hl2 : (strOfNums [48 + ((n % 10 : Nat) : Int)]).size = 1 := strOfNums_size _
      rw [strs_app]
      rw [e1] at hc
      rw [e2] at hd hl2
      rw [e2]
      generalize strOfNums [48 + (n : Int) % 10] = d1 at *
      generalize strOfNums (digs (n / 10)) = d2 at *
      obtain ⟨d, hd⟩ := hd
      have hcw : ∀ w', _ := fun w' => hc w'
      have HC := Lib.hid hc; have HD := Lib.hid hd
      have hnn : (0 : Int) ≤ n := by omega
      have hnb : (n : Int) < 1000000000000000000 := by omega
      clear hst hc hd e1 e2 ih hl h hcw hn
      go_enter Tryd.func37, Tryd.ntmps37
      go_wp2_with fail
      refine wp_region_lin (fun w' => ∃ m, w' = w.drewN m) 9 [(0, true), (1, true), (3, true), (4, true), (5, true), (6, true), (2, false), (7, true), (8, true)] (by kernel_rfl) (by kernel_rfl) (fun _ _ d _ _ h => by cases d <;> exact h) ⟨1, rfl⟩ ?_
      simp only [List.map_cons, List.map_nil, pick_zero, pick_succ, List.drop_succ_cons, List.drop_zero]
      have k1 : IntKind.i64.wrap ((n : Int) / 10) = (n : Int) / 10 := IntWalk.i64_in _ (by omega)
      have k2 : IntKind.i64.wrap ((n : Int) % 10) = (n : Int) % 10 := IntWalk.i64_in _ (by omega)
      iterate 6 (refine lin_q ?_ rfl ?_ ?_; rotate_left 1; (focus (rintro w' -; obtain ⟨i1, i2⟩ := HD.out w'; go_simp; first | done | with_reducible rfl | (trace_state; fail))); simp only [Act.put, List.setIfInBounds_toArray, List.set_cons_zero, List.set_cons_succ])
      refine lin_act ?_
      refine wl_call rfl _ _ _ (by go_simp) (HC.out _) ?_
      rintro e w3 ⟨rfl, m3, rfl⟩
      refine ⟨_, rfl, LinPost.mk ⟨m3 + 1, drewN_drew w m3⟩ ?_⟩
      simp only [Act.put, List.setIfInBounds_toArray, List.set_cons_zero, List.set_cons_succ]
      have q6 : ¬ (9223372036854775807 < d2.size + 1) := by omega
      iterate 2 (refine lin_q ?_ rfl ?_ ?_; rotate_left 1; (focus (rintro w' -; go_simp; first | done | with_reducible rfl | (trace_state; fail))); simp only [Act.put, List.setIfInBounds_toArray, List.set_cons_zero, List.set_cons_succ])
      refine lin_nil ?_
      go_wp2
      go_ret
      exact ⟨rfl, m3 + 1, drewN_drew w m3⟩
/-- A URL as a value. -/
def UL.val (u : UL) : List Value := [.string (strOfNums u.sch), .string (strOfNums u.host), .int .i64 u.port, .string (strOfNums u.path), .string (strOfNums u.query)]
def UL.Ok (u : UL) : Prop := u.sch.length ≤ 1000000000 ∧ u.host.length ≤ 1000000000 ∧ u.path.length ≤ 1000000000 ∧ u.query.length ≤ 1000000000 ∧ 0 ≤ u.port ∧ u.port < 1000000000000000000
theorem originI_len {u : UL} (h : u.Ok) : (originI u).length ≤ 2000000025 := by
  unfold originI
  have := (digs_len u.port.toNat).2
  have h1 := h.1; have h2 := h.2.1
  split <;> simp <;> omega
def printS (u : UL) : ByteArray := strOfNums (printI u)
theorem printI_len {u : UL} (h : u.Ok) : (printI u).length ≤ 4000000025 := by
  unfold printI
  have := originI_len h
  have h1 := h.2.2.1; have h2 := h.2.2.2.1
  simp; omega
end Go.Proofs.YtkmfbfmmlldphaaDoor
