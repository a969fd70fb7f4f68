/-
  For DiskPlays: calls within drawn regions, blocks in any order, what a look at a map tells, nil.
-/
import Derived.Test.YtelboocnenaicaaPlays2
namespace Go.Proofs.Ytelboocnenaicaa
set_option linter.unusedVariables false
set_option linter.unusedSimpArgs false
set_option maxRecDepth 20000
open Go.RowKit

theorem wl_go {P : Program} {w : World} {ops : Array Oper} {rest : List Oper} {op : Oper} {a : Act} {Q : Exit → Act → World → Prop} (hgd : op.guard = none) (f : FuncId) (args : Array Value) (post : Ending → World → Prop)
    (hrun : (execOp a.eval op).run P w = .ok (.enter f args) w) (hc : Calls P f args w post)
    (h : ∀ e w', post e w' → ∃ v, e = .returned v ∧ wpList P ops Q rest (a.put op.dst v) w') : wpList P ops Q (op :: rest) a w := by
  refine wpList_plain hgd fun K hK => ?_
  unfold Oper.wp
  rw [hrun]
  simp only [Oper.upon]
  refine hc.mono fun e w' he => ?_
  obtain ⟨v, rfl, hv⟩ := h e w' he
  exact hK _ _ hv
open Classical in
theorem own_any {w0 w : World} {A B : Blks} (h : Own w0 w A) (hc : ∀ p : Nat × Obj, List.count p A = List.count p B) : Own w0 w B := h.perm (List.perm_iff_count.2 hc)
theorem build_212 (w : World) : (Instr.buildSlice 22 3 #[(0, .int .i64 2), (1, .int .i64 1), (2, .int .i64 2)]).run Try.prog w = .ok (.slice (some ⟨w.heap.size, 0, none⟩) 3 3) (w.alloc (.cells (iv [2, 1, 2]).toArray 3)) := by kernel_rfl
theorem rdv_blockP {w0 : World} {R : Blks} {g n c : Nat} {vs : List Value} {t : TypeId} (hm : (g, Obj.cells vs.toArray t) ∈ R) (hn : vs.length = n) (hc : n ≤ c) : RdV w0 R (.slice (some ⟨g, 0, none⟩) n c) vs := by
  intro w' L' hO
  refine ⟨_, _, _, rfl, hn, hc, fun _ => ⟨_, rfl, fun j u hu => ?_⟩⟩
  rw [addr_add_zero, hO.cell (List.mem_append_right _ hm) j]
  simpa using hu
theorem make_32 (w : World) : (Instr.makeSlice 27 (.int .i64 32) (.int .i64 32)).run Try.prog w = .ok (.slice (some ⟨w.heap.size, 0, none⟩) 32 32) (w.alloc (.cells (bv (List.replicate 32 0)).toArray 5)) := make_bytes 32 (by omega) w
/-- What a look at a map of sectors tells: nil, or bytes that are shown. -/
theorem look_form {X : Blks} {es : Array MapEntry} {F : List (List Int)} (h : Tells X es F) (hF : ∀ x ∈ F, x.length = 32) {key y : Value} (hy : Has es key y ∨ ((∀ v', ¬ Has es key v') ∧ y = .slice none 0 0)) : y = .slice none 0 0 ∨ ∃ g c, y = .slice (some ⟨g, 0, none⟩) 32 c := by
  rcases hy with hy | ⟨_, rfl⟩
  · obtain ⟨j, ys, _, h2, B, hB, _⟩ := h.has _ _ hy
    have hl := hF ys (List.mem_of_getElem? h2)
    obtain ⟨g, c, sp, rfl, _, _⟩ := hB.blkn 32 hl (by decide)
    exact .inr ⟨g, c, rfl⟩
  · exact .inl rfl
theorem shows_rd {w : World} {X : Blks} {v : Value} {ys : List Int} (h : Shows X v ys) (hl : ys.length = 32) : Rd w X v ys := by
  obtain ⟨B, hB, hm⟩ := h
  obtain ⟨g, c, sp, rfl, rfl, hc⟩ := hB.blkn 32 hl (by decide)
  have := rd_blk (w0 := w) (R := X) (xs := ys) (sp := sp) (t := 5) (hm _ (.head _)) 0 32 c (by omega) hc
  rwa [List.drop_zero, List.take_of_length_le (by omega)] at this
theorem eql_nil (W : World) (ad : Addr) (n c : Nat) : (binOp .eql 27 (.slice (some ad) n c) (.slice none 0 0)).run Try.prog W = .ok (.bool false) W := by kernel_rfl
theorem nil_nil (W : World) : (binOp .eql 27 (.slice none 0 0) (.slice none 0 0)).run Try.prog W = .ok (.bool true) W := by kernel_rfl
theorem eqg_nil (W : World) (x y : Operand) (A : Option Addr) (n c : Nat) : (eqGuard .eql 27 x y (.slice A n c) (.slice none 0 0)).run Try.prog W = .ok () W := by kernel_rfl
theorem over_take1 (F : List (List Int)) (p : List (Nat × List Int)) (k : Nat) (hk : k < p.length) : over F (p.take (k + 1)) = (over F (p.take k)).set p[k].1 p[k].2 := by
  unfold over
  rw [List.take_succ_eq_append_getElem hk, List.foldl_append]; rfl
theorem flush_up (s : DSt) (h : s.down = false) : s.flush = { s with fl := s.la, pend := [] } := by unfold DSt.flush; rw [h]; rfl
theorem flush_dn (s : DSt) (h : s.down = true) : s.flush = s := by unfold DSt.flush; rw [h]; rfl
theorem row_cell {w0 : World} {e : TypeId} {v : Value} {n : Nat} {xs : List Value} {L : Blks} (h : IsRow e 1 v n xs L) (hn : 0 < n) : ∃ g c, v = .slice (some ⟨g, 0, none⟩) n c ∧ ∀ (w : World) (R : Blks), Own w0 w R → L.Sublist R → ∀ j, j < n → w.cell? ⟨g, j, none⟩ = xs[j]? := by
  rcases h.2 with ⟨_, h0, _⟩ | ⟨g, cap, sp, rfl, rfl, _⟩
  · omega
  · refine ⟨g, cap, rfl, fun w R hO hs j hj => ?_⟩
    rw [(hO.sub hs).cell (.head _) j]
    have hl := h.1
    simp only [List.getElem?_toArray]
    rw [List.getElem?_append_left (by omega)]
def PlayA (w : World) (s0 : Value) (wx : World) : Prop := ∃ a : Int, s0 = .int .i64 a ∧ w = wx
/-- x, whole or its first seven bytes. -/
def PlayX (gx cx : Nat) (w1 : World) (s18 : Value) (wx : World) : Prop := ∃ q : Nat, (q = 32 ∨ q = 7) ∧ s18 = .slice (some ⟨gx, 0, none⟩) q cx ∧ w1 = wx
def PlayIn (b : Bool) (w1 : World) (s19 : Value) (wx : World) : Prop := s19 = .bool b ∧ w1 = wx
theorem PS.next {w : World} {d : Value} {n i : Nat} {gs gz gn : Nat} {s12 s13 : Value} {s : DSt} {es en : Array MapEntry} {cs cn : Nat} {vs : List Value} {Ld La Lx X : Blks} (h : PS w d n i gs gz gn s12 s13 s es en cs cn vs Ld La Lx X) {Ld' : Blks} (hd : IsDisk d s Ld') : PS w d n (i + 3) gs gz gn s12 s13 s es en cs cn vs Ld' La Lx X :=
  ⟨hd, h.n, h.gsure, h.gnow, h.sure, h.now, h.ats, h.xs, h.each, by have := h.few; omega⟩
end Go.Proofs.Ytelboocnenaicaa
