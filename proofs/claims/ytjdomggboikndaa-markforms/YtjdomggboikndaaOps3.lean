/-
  append of a make past the capacity: a new block; what was there stays.
-/
import Derived.Test.YtjdomggboikndaaBts
namespace Go.Proofs.Ytjdomggboikndaa
set_option linter.unusedVariables false
set_option linter.unusedSimpArgs false
open Go.RowKit

section
variable {P : Program}
theorem run_appendZ_grow (w : World) (t tI ty e : TypeId) (k : IntKind) (i : TypeInfo) (z : Value) (bytes : Nat) (ht : P.underlying t = some (.slice e)) (hI : P.underlying tI = some (.int k)) (hi : P.info? e = some i) (hz : i.zero = some z)
    (hsize : i.size = 1) (hby : i.bytes = bytes) (hzs : z.cells = #[z])
    (ad : Addr) (n cap : Nat) (xs : List Value) (hx : xs.length = n) (holds : ∀ j u, xs[j]? = some u → w.cell? (ad.add j) = some u) (m : Nat) (hm : 0 < m) (hroom : cap < n + m)
    (h63 : n + m ≤ maxLen) (hbytes : (n + m) * bytes ≤ 140737488355328) :
    ∃ cap', n + m ≤ cap' ∧ cap' ≤ maxLen ∧ (Builtin.append_ #[t, tI] ty #[.slice (some ad) n cap, .int .i64 m]).run P w =
      .ok (.slice (some ⟨w.heap.size, 0, none⟩) (n + m) cap') (w.drew.alloc (.cells (xs ++ List.replicate m z ++ List.replicate (cap' - (n + m)) z).toArray e)) := by
  subst hby
  have hsmall : n + m ≤ 9223372036854775807 := by simp only [maxLen] at h63; omega
  have hw : IntKind.i64.wrap (m : Int) = m := IntWalk.i64_in _ (by omega)
  have hm0 : ¬ ((m : Int) < 0) := by omega
  have hmb : ¬ (281474976710656 < (m : Int) * (i.bytes : Int)) := by
    have h2 : m * i.bytes ≤ (n + m) * i.bytes := Nat.mul_le_mul_right _ (by omega)
    have h3 : ((m * i.bytes : Nat) : Int) ≤ 140737488355328 := by omega
    rw [Int.natCast_mul] at h3
    omega
  have hmz : ¬ (m = 0) := by omega
  have hms : ¬ (m * i.size = 0) := by rw [hsize]; omega
  have hn : ¬ (n + m ≤ cap) := by omega
  have h63' : ¬ (9223372036854775807 < ((n : Int) + (m : Int))) := by omega
  have h48' : ¬ (281474976710656 < Builtin.nextslicecap (n + m) cap * i.bytes) := by
    have := growslice_fits (need := n + m) (old := cap) (bytes := i.bytes) (by omega) hbytes; omega
  have hfo := run_firstCells_some (P := P) w.drew i.size n ad n cap xs (by rw [hsize, hx, Nat.mul_one]) (by simpa using holds)
  refine ⟨grownCap w (n + m) cap e, grownCap_ge w (n + m) cap e, grownCap_le_maxLen w (n + m) cap e h63, ?_⟩
  rw [hsize] at hfo
  simp [Builtin.append_, run_underlying ht, run_underlying hI, sizeOf, typeInfo, zeroValue, hi, hz, asInt, asIntOf, hw, hm0, hmb, hmz, hms, hsize, hn, h63', h48', Question.forced, hfo, newRow, grownCap, zeroCells_one z hzs]
  congr 2
  apply Array.ext'
  simp
end
section
variable {w0 w : World} {L R : Blks} {ops : Array Oper} {rest : List Oper} {op : Oper} {a : Act} {Q : Exit → Act → World → Prop}
theorem wl_appendZN (hgd : op.guard = none) (s x : Operand)
    (ho : op.op = .call { callee := .builtin .append, args := #[s, x], argTypes := #[27, 3] })
    (ad : Addr) (n cap : Nat) (xs : List Int) (hs : a.eval s = .slice (some ad) n cap) (hO : Own w0 w R) (hV : Bs w (.slice (some ad) n cap) xs)
    (m : Nat) (hm : 0 < m) (hroom : cap < n + m) (hx : a.eval x = .int .i64 (m : Int)) (h63 : n + m ≤ 1073741824)
    (h : ∀ v' w' L', IsBytes v' (xs ++ List.replicate m 0) L' → Own w0 w' (L' ++ R) → wpList Try.prog ops Q rest (a.put op.dst v') w') : wpList Try.prog ops Q (op :: rest) a w := by
  obtain ⟨i, hi, hz, hz1, hz2⟩ := info_parts byte_info
  obtain ⟨A, n', c', e, hn, hc, hA⟩ := hV
  cases e
  have holds : ∀ j u, (bv xs)[j]? = some u → w.cell? (ad.add j) = some u := by
    intro j u hu
    simp only [bv, List.getElem?_map, Option.map_eq_some_iff] at hu
    obtain ⟨x, hx, rfl⟩ := hu
    have hj : j < xs.length := (List.getElem?_eq_some_iff.1 hx).1
    obtain ⟨ad', e, hcell⟩ := hA (by omega)
    cases e
    exact hcell j x hx
  obtain ⟨cap', h1, h2, hrun⟩ := run_appendZ_grow (P := Try.prog) w 27 3 op.type 5 .i64 i _ 1 Try.underlying27 Try.underlying3 hi hz hz1 hz2 (by rfl) ad n cap (bv xs) (by simpa using hn) holds m hm hroom (by simp only [maxLen]; omega) (by omega)
  refine wpList_plain hgd fun K hK => ?_
  unfold Oper.wp execOp
  simp only [ho, resolve, invoke, builtin, Sem.run_bind, Sem.run_pure, Result.andThen_ok, List.map_toArray, List.map_cons, List.map_nil, hs, hx, hrun]
  refine hK _ _ (h _ _ [_] ?_ (hO.drew.alloc _))
  unfold IsBytes
  rw [List.length_append, bv_append, List.length_replicate, hn]
  refine ⟨by simp [bv]; omega, .inr ⟨w.heap.size, cap', List.replicate (cap' - (n + m)) (.int .u8 0), rfl, ?_, ?_, h1, h2⟩⟩
  · simp [bv]
  · simp [bv]; omega
end
end Go.Proofs.Ytjdomggboikndaa
