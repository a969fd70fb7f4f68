/-
  For DiskPlays' crash: parts of slices, the range over a map step by step, what survives.
-/
import Derived.Test.YtelboocnenaicaaPlayL
namespace Go.Proofs.Ytelboocnenaicaa
set_option linter.unusedVariables false
set_option linter.unusedSimpArgs false
set_option maxRecDepth 20000
open Go.RowKit Go.ChangeMaps Go.MapKept

theorem add_add (ad : Addr) (i j : Nat) : (ad.add i).add j = ad.add (i + j) := by
  unfold Addr.add
  by_cases hi : i = 0
  · subst hi; simp
  · rw [if_neg hi]
    by_cases hj : j = 0
    · subst hj; rw [if_pos rfl, Nat.add_zero, if_neg hi]
    · rw [if_neg hj, if_neg (by omega)]; simp [Nat.add_assoc]
theorem sl_ints (W : World) (A : Option Addr) (n c lo : Nat) (h1 : lo ≤ n) (h2 : n ≤ c) (h3 : A = none → c = 0) :
    (Instr.slice 22 (.slice A n c) (some (.int .i64 (lo : Int))) none none).run Try.prog W = .ok (.slice (A.map fun ad => if c = lo then ad else ad.add lo) (n - lo) (c - lo)) W := by
  cases A with
  | none =>
    obtain rfl := h3 rfl
    obtain rfl : n = 0 := by omega
    obtain rfl : lo = 0 := by omega
    kernel_rfl
  | some ad =>
    have h3 : (lo : Int) ≤ n := by omega
    have h4 : (n : Int) ≤ c := by omega
    have h5 : (lo : Int) ≤ c := by omega
    by_cases hc : c = lo
    · subst hc
      obtain rfl : n = c := by omega
      simp only [Option.map_some, if_true]
      go_simp
    · simp only [Option.map_some, if_neg hc]
      have hc2 : ¬ (c - lo = 0) := by omega
      go_simp
theorem rest_rdv {w : World} {A : Option Addr} {n c lo : Nat} {xs : List Int} {R : Blks} (h : InRow .i64 w (.slice A n c) xs) (hl : lo ≤ n) : RdV w R (.slice (A.map fun ad => if c = lo then ad else ad.add lo) (n - lo) (c - lo)) (iv (xs.drop lo)) := by
  intro w' L' hO
  obtain ⟨A', n', c', e, hn, hc, _, _, hA⟩ := h
  cases e
  refine ⟨_, _, _, rfl, by simp [iv]; omega, by omega, fun h0 => ?_⟩
  obtain ⟨ad, rfl, hb, hcell⟩ := hA (by omega)
  refine ⟨ad.add lo, by simp only [Option.map_some]; rw [if_neg (by omega)], fun j u hu => ?_⟩
  simp only [iv, List.getElem?_map, Option.map_eq_some_iff, List.getElem?_drop] at hu
  obtain ⟨x, hx, rfl⟩ := hu
  rw [add_add, hO.below.cell (by rw [block_of_add]; exact hb)]
  exact hcell _ x hx
theorem sl_uptoB (W : World) (ad : Addr) (n c hi : Nat) (h1 : hi ≤ n) (h2 : n ≤ c) : (Instr.slice 27 (.slice (some ad) n c) none (some (.int .i64 (hi : Int))) none).run Try.prog W = .ok (.slice (some ad) hi c) W := by
  have h4 : (hi : Int) ≤ c := by omega
  go_simp
theorem sl_fromB (W : World) (ad : Addr) (n c lo : Nat) (h1 : lo ≤ n) (h2 : n ≤ c) : (Instr.slice 27 (.slice (some ad) n c) (some (.int .i64 (lo : Int))) none none).run Try.prog W = .ok (.slice (some (if c = lo then ad else ad.add lo)) (n - lo) (c - lo)) W := by
  have h3 : (lo : Int) ≤ n := by omega
  have h4 : (n : Int) ≤ c := by omega
  have h5 : (lo : Int) ≤ c := by omega
  by_cases hc : c = lo
  · subst hc
    obtain rfl : n = c := by omega
    rw [if_pos rfl]
    go_simp
  · rw [if_neg hc]
    have hc2 : ¬ (c - lo = 0) := by omega
    go_simp
theorem Rd.upto {w0 : World} {R : Blks} {A : Option Addr} {n c : Nat} {xs : List Int} (h : Rd w0 R (.slice A n c) xs) (m : Nat) (hm : m ≤ n) : Rd w0 R (.slice A m c) (xs.take m) := by
  intro w' L' hO
  obtain ⟨A', n', c2, e, hn, hc, hA⟩ := h w' L' hO
  cases e
  refine ⟨_, _, _, rfl, by simp; omega, by omega, fun h0 => ?_⟩
  obtain ⟨ad', e, hcell⟩ := hA (by omega)
  refine ⟨ad', e, fun j x hx => hcell j x ?_⟩
  have hj : j < m := by have := (List.getElem?_eq_some_iff.1 hx).1; simp at this; omega
  rwa [List.getElem?_take_of_lt hj] at hx
theorem Rd.from_ {w0 : World} {R : Blks} {ad : Addr} {n c : Nat} {xs : List Int} (h : Rd w0 R (.slice (some ad) n c) xs) (lo : Nat) (hl : lo ≤ n) : Rd w0 R (.slice (some (if c = lo then ad else ad.add lo)) (n - lo) (c - lo)) (xs.drop lo) := by
  intro w' L' hO
  obtain ⟨A', n', c2, e, hn, hc, hA⟩ := h w' L' hO
  cases e
  refine ⟨_, _, _, rfl, by simp; omega, by omega, fun h0 => ?_⟩
  obtain ⟨ad', e, hcell⟩ := hA (by omega)
  cases e
  refine ⟨ad.add lo, by rw [if_neg (by omega)], fun j x hx => ?_⟩
  rw [List.getElem?_drop] at hx
  rw [add_add]
  exact hcell _ x hx
theorem crash_step (F : List (List Int)) (p : List (Nat × List Int)) (ks : List Int) (j : Nat) (hj : j < p.length) {zs : List Int} (hz : (survAll F (p.take j) ks)[p[j].1]? = some zs) (hzl : zs.length = 32) (hq : p[j].2.length = 32) :
    survAll F (p.take (j + 1)) ks = (survAll F (p.take j) ks).set p[j].1 (p[j].2.take (cutOf (ks.getD j 0)) ++ zs.drop (cutOf (ks.getD j 0))) := by
  rw [survAll_take p F ks j hj]
  split
  · rename_i h
    have e : ks.getD j 0 = ks[j] := by simp [List.getD, h]
    rw [e]
    exact surv_cut _ _ _ hz hzl hq
  · rename_i h
    have e : ks.getD j 0 = 0 := by simp [List.getD, h]
    rw [e]
    obtain ⟨hlt, rfl⟩ := List.getElem?_eq_some_iff.1 hz
    simp [cutOf]
theorem cutOf_le (k : Int) : cutOf k ≤ 32 := by unfold cutOf; split; omega; split <;> omega
section
variable {P : Program} {w0 w : World} {L : Blks} {ops : Array Oper} {rest : List Oper} {op : Oper} {a : Act} {Q : Exit → Act → World → Prop} {k e : TypeId} {es : Array MapEntry} {clock : Nat} {seen : Array Nat}
theorem wl_next_done (hgd : op.guard = none) (it : Operand) (ho : op.op = .next it false) (hO : Own w0 w L) (i r g : Nat) (hi : L[i]? = some (r, Obj.mapIter (some g) clock seen clock)) (hm : (g, Obj.map es clock) ∈ L) (G : GoodMap P k es clock)
    (ha : a.eval it = .pointer (some ⟨r, 0, none⟩)) (h0 : (leftOf es seen).size = 0)
    (h : wpList P ops Q rest (a.put op.dst (.tuple #[.bool false])) w) : wpList P ops Q (op :: rest) a w := by
  have hr := hO.heap (List.mem_of_getElem? hi)
  rcases run_next_at (P := P) w op.type r g clock clock seen es clock hr (hO.heap hm) G.st.1 (Nat.le_refl _) with ⟨_, hrun⟩ | ⟨x, hx, _⟩
  · exact wl_val hgd _ (by simp [execOp, ho, ha, hrun]) h
  · have := List.length_pos_of_mem hx
    simp at this
    omega
theorem wl_next_step (hgd : op.guard = none) (it : Operand) (ho : op.op = .next it false) (hO : Own w0 w L) (i r g : Nat) (hi : L[i]? = some (r, Obj.mapIter (some g) clock seen clock)) (hm : (g, Obj.map es clock) ∈ L) (G : GoodMap P k es clock)
    (ha : a.eval it = .pointer (some ⟨r, 0, none⟩)) (h0 : ¬ (leftOf es seen).size = 0)
    (hstep : ∀ x v seen' w', Own w0 w' (L.set i (r, .mapIter (some g) clock seen' clock)) → (leftOf es seen').size < (leftOf es seen).size → Has es x v → (∀ x' v', Gone es seen' x' v' ↔ Gone es seen x' v' ∨ (x' = x ∧ v' = v)) → Last es seen' x v →
      wpList P ops Q rest (a.put op.dst (.tuple #[.bool true, x, v])) w') : wpList P ops Q (op :: rest) a w := by
  have hr := hO.heap (List.mem_of_getElem? hi)
  rcases run_next_at (P := P) w op.type r g clock clock seen es clock hr (hO.heap hm) G.st.1 (Nat.le_refl _) with ⟨h1, _⟩ | ⟨x, hx, w1, hw1, hrun⟩
  · exact absurd h1 h0
  · obtain ⟨hxm, hxs⟩ := mem_left hx
    refine wpList_plain hgd fun K' hK' => ?_
    unfold Oper.wp
    simp [execOp, ho, ha, hrun, Result.andThen]
    have hO1 : Own w0 w1 L := by rcases hw1 with rfl | rfl; exact hO; exact hO.drew
    have hr1 := hO1.heap (List.mem_of_getElem? hi)
    exact hK' _ _ (hstep x.key x.val (seen.push x.born) _ (hO1.updAt i hi ⟨rfl, rfl, rfl, by simp [setBlock], fun j _ hj => at_setBlock_other (fun e => hj (by rw [e]))⟩ (at_setBlock hr1)) (left_shrinks es seen x hx) ⟨x, hxm, rfl, rfl⟩ (gone_push G hxm) ⟨seen, x, hxm, rfl, rfl, rfl⟩)
theorem all_gone (h0 : (leftOf es seen).size = 0) : ∀ x v, Has es x v → Gone es seen x v := by
  rintro _ _ ⟨y, hy, rfl, rfl⟩
  exact ⟨y, hy, all_seen es seen h0 y hy, rfl, rfl⟩
end
/-- The map of what is sure, behind the first j of the writes that a crash met. -/
def CrashTo (w : World) (gs gz gn : Nat) (s : DSt) (en : Array MapEntry) (cn : Nat) (Ld La Lx X : Blks) (ks : List Int) (j : Nat) (wx : World) : Prop :=
  ∃ es cs X', GoodMap Try.prog 3 es cs ∧ Tells X' es (survAll s.fl (s.pend.take j) ks) ∧ (∀ y ∈ X, y ∈ X') ∧ Own w wx (PBlks gs gz gn es en cs cn Ld La Lx X')
/-- The copy of the map of what is sure. -/
def CopyTo (w : World) (r gs g9 : Nat) (es : Array MapEntry) (cs : Nat) (R : Blks) (gg : Nat) (wx : World) : Prop :=
  ∃ seen en cn, gg = (leftOf es seen).size ∧ GoodMap Try.prog 3 en cn ∧ Copied es seen en ∧ Own w wx ((r, .mapIter (some gs) cs seen cs) :: (g9, .map en cn) :: (gs, .map es cs) :: R)
theorem tells_key {X : Blks} {es : Array MapEntry} {F : List (List Int)} (h : Tells X es F) (hl : F.length ≤ 1024) {a v : Value} (hh : Has es a v) : ∃ l, keyOf Try.prog 3 a = some l := by
  obtain ⟨j, ys, rfl, hj, _⟩ := h.has a v hh
  exact key_int j (by have := (List.getElem?_eq_some_iff.1 hj).1; omega)
theorem atsV_get (p : List (Nat × List Int)) (j : Nat) (hj : j < p.length) : (atsV p)[j]? = some (.int .i64 (p[j].1 : Int)) := by simp [atsV, hj]
end Go.Proofs.Ytelboocnenaicaa
