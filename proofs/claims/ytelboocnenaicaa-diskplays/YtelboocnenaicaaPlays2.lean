/-
  DiskPlays, second part: what holds at each round's head.
-/
import Derived.Test.YtelboocnenaicaaPlays1
import Derived.Test.YtelboocnenaicaaL01a
import Derived.Test.YtelboocnenaicaaBts
import Derived.Maps.Keyed
namespace Go.Proofs.Ytelboocnenaicaa
set_option linter.unusedVariables false
set_option linter.unusedSimpArgs false
set_option maxRecDepth 20000
open Go.RowKit

theorem int_kd : Go.Maps.Keyed Try.prog 3 := Go.Maps.int_keyed Try.underlying3
theorem key_int (x : Int) (h : -9223372036854775808 ≤ x ∧ x ≤ 9223372036854775807) : ∃ l, keyOf Try.prog 3 (.int .i64 x) = some l := by
  have hw : (Lit.int .i64 x).wf = true := by simp [Lit.wf, IntKind.min, IntKind.max, IntKind.signed, IntKind.bits]; omega
  exact ⟨.int .i64 x, by simp [keyOf, mapKey, Try.underlying3, hw]⟩
theorem zero_row (w : World) : (zeroValue 27).run Try.prog w = .ok (.slice none 0 0) w := by kernel_rfl
theorem ints_info : (Try.prog.info? 3).map (fun i => (i.zero, i.size, i.bytes)) = some (some (.int .i64 0), 1, 8) := by kernel_rfl
theorem slb_info : (Try.prog.info? 27).map (fun i => (i.zero, i.size, i.bytes)) = some (some (.slice none 0 0), 1, 24) := by kernel_rfl
set_option maxHeartbeats 1000000 in
theorem within_big {w : World} (v n : Int) (h1 : 1 ≤ n) (h2 : n ≤ 4611686018427387904) : Calls Try.prog 4 #[.int .i64 v, .int .i64 n] w fun e w' => e = .returned (.int .i64 (v % n)) ∧ w = w' := by
  have hn0 : (n == 0) = false := by simp; omega
  have hb1 : -n < v.tmod n := by have := Int.lt_tmod_of_pos v (show 0 < n by omega); omega
  have hb2 : v.tmod n < n := Int.tmod_lt_of_pos v (by omega)
  by_cases hneg : v.tmod n < 0
  · rw [emod_neg v n h1 hneg]
    go_enter Try.func4, Try.ntmps4
    go_wp2
    go_ret
    exact ⟨rfl, rfl⟩
  · rw [emod_pos v n h1 hneg]
    go_enter Try.func4, Try.ntmps4
    go_wp2
    go_ret
    exact ⟨rfl, rfl⟩
def atsV (p : List (Nat × List Int)) : List Value := p.map fun q => .int .i64 (q.1 : Int)
/-- The state at a round's head: the disk, the two maps, the pending writes. -/
structure PS (w : World) (d : Value) (n i : Nat) (gs gz gn : Nat) (s12 s13 : Value) (s : DSt) (es en : Array MapEntry) (cs cn : Nat) (vs : List Value) (Ld La Lx X : Blks) : Prop where
  disk : IsDisk d s Ld
  n : s.n = n
  gsure : GoodMap Try.prog 3 es cs
  gnow : GoodMap Try.prog 3 en cn
  sure : Tells X es s.fl
  now : Tells X en s.la
  ats : IsRow 3 1 s12 s.pend.length (atsV s.pend) La
  xs : IsRow 27 1 s13 s.pend.length vs Lx
  each : ∀ j, j < s.pend.length → Shows X (vs.getD j undef) (s.pend.getD j (0, [])).2
  few : s.pend.length ≤ i
def PBlks (gs gz gn : Nat) (es en : Array MapEntry) (cs cn : Nat) (Ld La Lx X : Blks) : Blks :=
  (gs, .map es cs) :: (gn, .map en cn) :: (gz, .cells (bv zsec).toArray 5) :: (Ld ++ (La ++ (Lx ++ X)))
def PState (w : World) (d : Value) (n i : Nat) (gs gz : Nat) (s10 s12 s13 s14 s15 : Value) (wx : World) : Prop :=
  ∃ gn s es en cs cn vs Ld La Lx X, s10 = .map (some gn) ∧ s14 = .int .i64 s.left ∧ s15 = .bool s.down ∧ PS w d n i gs gz gn s12 s13 s es en cs cn vs Ld La Lx X ∧ Own w wx (PBlks gs gz gn es en cs cn Ld La Lx X)
end Go.Proofs.Ytelboocnenaicaa
