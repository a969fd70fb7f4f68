/-
  Operations on memory of the call's own, said by 'Own': behind each the world is a letter. No program is named here.
-/
import Derived.Test.YtkmfbfmmlldphaaDoorBase
import Derived.Laws.CopyOwn
namespace Go.Proofs.YtkmfbfmmlldphaaDoor
set_option linter.unusedVariables false
set_option linter.unusedSimpArgs false
set_option maxRecDepth 20000
open Go.RowKit

/-- The slice v is a row of the blocks L from its beginning on: n elements of 'size' cells: xs (nil, and no block, serves for none). -/
def IsRow (e : TypeId) (size : Nat) (v : Value) (n : Nat) (xs : List Value) (L : Blks) : Prop :=
  xs.length = n * size ∧ ((v = .slice none 0 0 ∧ n = 0 ∧ L = []) ∨
    ∃ g cap sp, v = .slice (some ⟨g, 0, none⟩) n cap ∧ L = [(g, .cells (List.toArray (xs ++ sp)) e)] ∧ (xs ++ sp).length = cap * size ∧ n ≤ cap ∧ cap ≤ maxLen)
theorem IsRow.val {e : TypeId} {size n : Nat} {v : Value} {xs : List Value} {L : Blks} (h : IsRow e size v n xs L) : ∃ A c, v = .slice A n c := by
  rcases h.2 with ⟨rfl, rfl, rfl⟩ | ⟨g, cap, sp, rfl, _⟩
  · exact ⟨_, _, rfl⟩
  · exact ⟨_, _, rfl⟩
theorem IsRow.owns {w0 w : World} {e : TypeId} {size n : Nat} {v : Value} {xs : List Value} {L R : Blks} (h : IsRow e size v n xs L) (hO : Own w0 w (L ++ R)) : w.ownsRow w0.heap.size e size v n xs := by
  refine ⟨h.1, ?_⟩
  rcases h.2 with ⟨rfl, rfl, rfl⟩ | ⟨g, cap, sp, rfl, rfl, hl, hn, hm⟩
  · exact .inl ⟨rfl, rfl⟩
  · exact .inr ⟨g, cap, _, rfl, hO.base (.head _), hO.heap (.head _), hn, hm, by simpa using hl, by rw [← h.1]; simp⟩
theorem IsRow.of_owns {w : World} {base : Nat} {e : TypeId} {size n : Nat} {v : Value} {xs : List Value} (h : w.ownsRow base e size v n xs) :
    ∃ L, IsRow e size v n xs L ∧ (∀ g o, (g, o) ∈ L → base ≤ g ∧ w.heap[g]? = some o ∧ v.ownBlock = some g) ∧ L.length ≤ 1 := by
  rcases h.2 with ⟨rfl, rfl⟩ | ⟨g, cap, cur, rfl, hb, hh, hn, hm, hs, ht⟩
  · exact ⟨[], ⟨h.1, .inl ⟨rfl, rfl, rfl⟩⟩, by simp, by simp⟩
  · have e1 : cur.toList = xs ++ cur.toList.drop (n * size) := by rw [← ht]; simp
    refine ⟨[(g, .cells cur e)], ⟨h.1, .inr ⟨g, cap, cur.toList.drop (n * size), rfl, ?_, ?_, hn, hm⟩⟩, ?_, by simp⟩
    · rw [← e1]
    · rw [← e1]; simpa using hs
    · intro g' o hm
      simp at hm
      obtain ⟨rfl, rfl⟩ := hm
      exact ⟨hb, hh, rfl⟩

theorem IsRow.some {e : TypeId} {size n : Nat} {v : Value} {xs : List Value} {L : Blks} (h : IsRow e size v n xs L) (hv : v ≠ .slice none 0 0) :
    ∃ g cap sp, v = .slice (some ⟨g, 0, none⟩) n cap ∧ L = [(g, .cells (List.toArray (xs ++ sp)) e)] ∧ (xs ++ sp).length = cap * size ∧ n ≤ cap ∧ cap ≤ maxLen :=
  h.2.resolve_left fun h => hv h.1
/-- A row that has grown: what else there was is as it was. -/
theorem Own.grow {w0 w w' : World} {e : TypeId} {size n m : Nat} {v v' : Value} {xs ys : List Value} {L R : Blks} (hO : Own w0 w (L ++ R)) (hr : IsRow e size v n xs L)
    (h2 : w'.ownsRow w0.heap.size e size v' m ys) (h3 : w.grownBy w' v.ownBlock) (h5 : v'.ownBlock = v.ownBlock ∨ v'.ownBlock = some w.heap.size) :
    ∃ L', IsRow e size v' m ys L' ∧ Own w0 w' (L' ++ R) := by
  obtain ⟨L', hr', hL', h1⟩ := IsRow.of_owns h2
  refine ⟨L', hr', ?_⟩
  have hvb : ∀ g, v.ownBlock = some g → ∃ o, L = [(g, o)] := by
    intro g hg
    rcases hr.2 with ⟨rfl, rfl, rfl⟩ | ⟨g', cap, sp, rfl, rfl, _⟩
    · simp [Value.ownBlock] at hg
    · simp only [Value.ownBlock, Option.some.injEq] at hg; subst hg; exact ⟨_, rfl⟩
  have hRold : ∀ g o, (g, o) ∈ R → v.ownBlock ≠ some g := by
    intro g o hm hg
    obtain ⟨o', rfl⟩ := hvb g hg
    have hnd := hO.nodup
    simp only [List.cons_append, List.nil_append, List.map_cons, List.nodup_cons] at hnd
    exact hnd.1 (List.mem_map.2 ⟨_, hm, rfl⟩)
  have hOR := hO.right
  refine ⟨?_, ?_, ?_⟩
  · refine hO.below.grown h3 hO.below.size (fun k hk => ?_)
    obtain ⟨o, rfl⟩ := hvb k hk
    exact hO.base (.head _)
  · intro g o hm
    rcases List.mem_append.1 hm with hm | hm
    · exact ⟨(hL' g o hm).1, (hL' g o hm).2.1⟩
    · exact ⟨hOR.base hm, (h3.block g (hOR.lt hm) (fun e => hRold g o hm e.symm)).trans (hOR.heap hm)⟩
  · rw [List.map_append, List.nodup_append]
    refine ⟨?_, hOR.nodup, ?_⟩
    · match L', h1 with
      | [], _ => simp
      | [_], _ => simp
    · intro g hg g' hg' e
      subst e
      obtain ⟨⟨_, o⟩, hm, rfl⟩ := List.mem_map.1 hg
      obtain ⟨⟨_, o'⟩, hm', e⟩ := List.mem_map.1 hg'
      simp only at e
      subst e
      have hb := (hL' _ _ hm).2.2
      have hlt := hOR.lt hm'
      rcases h5 with h5 | h5
      · exact hRold _ _ hm' (h5.symm.trans hb)
      · rw [h5] at hb; injection hb with hb; omega

/-- The blocks L are just the bytes xs that the slice v is of. -/
def IsBytes (v : Value) (xs : List Int) (L : Blks) : Prop := IsRow 5 1 v xs.length (bv xs) L
theorem IsBytes.bs {w0 w : World} {v : Value} {xs : List Int} {L R : Blks} (h : IsBytes v xs L) (hO : Own w0 w (L ++ R)) : Bs w v xs := by
  rcases h.2 with ⟨rfl, hn, rfl⟩ | ⟨g, cap, sp, rfl, rfl, hl, hn, hm⟩
  · exact ⟨_, _, _, rfl, hn, Nat.le_refl _, fun h => absurd h (by omega)⟩
  · refine ⟨_, _, _, rfl, rfl, hn, fun _ => ⟨_, rfl, fun j x hx => ?_⟩⟩
    rw [addr_add_zero, hO.cell (.head _) j]
    have hj : j < xs.length := (List.getElem?_eq_some_iff.1 hx).1
    simp only [List.getElem?_toArray]
    rw [List.getElem?_append_left (by simpa using hj)]
    simp [bv, hx]

section
variable {P : Program} {w0 w : World} {L R : Blks} {ops : Array Oper} {rest : List Oper} {op : Oper} {a : Act} {Q : Exit → Act → World → Prop}

/-- An operation whose guard says yes is as one that has none. -/
theorem wl_g (hw : Region.wanted op (yielded ops a.tmps) = true) (h : wpList P ops Q ({ op with guard := none } :: rest) a w) : wpList P ops Q (op :: rest) a w := by
  simp only [wpList] at h ⊢
  rw [if_pos hw]
  rw [if_pos (by simp [Region.wanted])] at h
  exact h
/-- A run of cells is stored. -/
theorem wl_store (hgd : op.guard = none) (ty : TypeId) (x y : Operand) (ho : op.op = .store ty x y) (hO : Own w0 w L)
    (k : Nat) (g off : Nat) (cs vs : List Value) (t : TypeId) (hk : L[k]? = some (g, .cells cs.toArray t)) (hx : a.eval x = .pointer (some ⟨g, off, none⟩)) (hy : a.eval y = .agg vs.toArray)
    (hi : (P.info? ty).map (·.size) = some vs.length) (h1 : ∀ v ∈ vs, v.oneCell' = true) (hl : off + vs.length ≤ cs.length)
    (h : ∀ w', Own w0 w' (L.set k (g, .cells (wr cs off vs).toArray t)) → wpList P ops Q rest (a.put op.dst undef) w') : wpList P ops Q (op :: rest) a w := by
  have hb := hO.heap (List.mem_of_getElem? hk)
  refine wpList_store_mid hgd ty x y ho g off vs.toArray hx hy (there_of_heap hb off _ (by simpa using hl)) (by simpa using hi) (all_oneCell_toArray h1) ?_
  exact h _ (hO.setsAt k hk off vs hl)
/-- A run of cells is loaded. -/
theorem wl_load (hgd : op.guard = none) (ty : TypeId) (x : Operand) (ho : op.op = .load ty x) (g off : Nat) (cs vs : List Value) (t : TypeId) (hb : w.heap[g]? = some (.cells cs.toArray t))
    (hx : a.eval x = .pointer (some ⟨g, off, none⟩)) (d : TypeDesc) (hu : P.underlying ty = some d) (hd : d.isRow = true) (hi : (P.info? ty).map (·.size) = some vs.length)
    (hv : (cs.drop off).take vs.length = vs)
    (h : wpList P ops Q rest (a.put op.dst (.agg vs.toArray)) w) : wpList P ops Q (op :: rest) a w :=
  wpList_load_mid hgd ty x ho g off hx vs d (by have := range_of_heap hb off vs.length; rwa [hv] at this) hu hd hi h
/-- What makes one new block. -/
theorem wl_new (hgd : op.guard = none) (hO : Own w0 w L) (ob : Obj) (f : Nat → Value) (hrun : (execOp a.eval op).run P w = .ok (.value (f w.heap.size)) (w.alloc ob))
    (h : ∀ g w', Own w0 w' ((g, ob) :: L) → wpList P ops Q rest (a.put op.dst (f g)) w') : wpList P ops Q (op :: rest) a w := by
  refine wpList_plain hgd fun K hK => ?_
  unfold Oper.wp
  rw [hrun]
  exact hK _ _ (h _ _ (hO.alloc ob))
/-- What only reckons. -/
theorem wl_val (hgd : op.guard = none) (v : Value) (hrun : (execOp a.eval op).run P w = .ok (.value v) w) (h : wpList P ops Q rest (a.put op.dst v) w) : wpList P ops Q (op :: rest) a w := by
  refine wpList_plain hgd fun K hK => ?_
  unfold Oper.wp
  rw [hrun]
  exact hK _ _ h
theorem wl_alloc (hgd : op.guard = none) (ty : TypeId) (ho : op.op = .alloc ty) (hO : Own w0 w L) (ob : Obj)
    (hrun : (Instr.alloc ty true (.tuple #[])).run P w = .ok (.pointer (some ⟨w.heap.size, 0, none⟩)) (w.alloc ob))
    (h : ∀ g w', Own w0 w' ((g, ob) :: L) → wpList P ops Q rest (a.put op.dst (.pointer (some ⟨g, 0, none⟩))) w') : wpList P ops Q (op :: rest) a w :=
  wl_new hgd hO ob (fun g => .pointer (some ⟨g, 0, none⟩)) (by simp [execOp, ho, hrun]) h
theorem wl_box (hgd : op.guard = none) (ty : TypeId) (x : Operand) (ho : op.op = .box ty x) (hO : Own w0 w L) (cs : Array Value) (hx : a.eval x = .agg cs)
    (h : ∀ g w', Own w0 w' ((g, .cells cs ty) :: L) → wpList P ops Q rest (a.put op.dst (.pointer (some ⟨g, 0, none⟩))) w') : wpList P ops Q (op :: rest) a w :=
  wl_new hgd hO (.cells cs ty) (fun g => .pointer (some ⟨g, 0, none⟩)) (by simp [execOp, ho, hx, Instr.box, newVar, newRow, Value.cells]) h
theorem wl_build (hgd : op.guard = none) (ty : TypeId) (parts : List (Nat × Operand)) (ho : op.op = .build ty parts.toArray) (v : Value)
    (hrun : (Instr.build ty (parts.map fun p => (p.1, a.eval p.2)).toArray).run P w = .ok v w) (h : wpList P ops Q rest (a.put op.dst v) w) : wpList P ops Q (op :: rest) a w :=
  wl_val hgd v (by simp [execOp, ho, hrun]) h
theorem wl_buildSlice (hgd : op.guard = none) (ty : TypeId) (n : Nat) (parts : List (Nat × Operand)) (ho : op.op = .buildSlice ty n parts.toArray) (hO : Own w0 w L) (ob : Obj)
    (hrun : (Instr.buildSlice ty n (parts.map fun p => (p.1, a.eval p.2)).toArray).run P w = .ok (.slice (some ⟨w.heap.size, 0, none⟩) n n) (w.alloc ob))
    (h : ∀ g w', Own w0 w' ((g, ob) :: L) → wpList P ops Q rest (a.put op.dst (.slice (some ⟨g, 0, none⟩) n n)) w') : wpList P ops Q (op :: rest) a w :=
  wl_new hgd hO ob (fun g => .slice (some ⟨g, 0, none⟩) n n) (by simp [execOp, ho, hrun]) h
theorem wl_makeSlice (hgd : op.guard = none) (ty : TypeId) (x y : Operand) (ho : op.op = .makeSlice ty x y) (hO : Own w0 w L) (ob : Obj) (n c : Nat)
    (hrun : (Instr.makeSlice ty (a.eval x) (a.eval y)).run P w = .ok (.slice (some ⟨w.heap.size, 0, none⟩) n c) (w.alloc ob))
    (h : ∀ g w', Own w0 w' ((g, ob) :: L) → wpList P ops Q rest (a.put op.dst (.slice (some ⟨g, 0, none⟩) n c)) w') : wpList P ops Q (op :: rest) a w :=
  wl_new hgd hO ob (fun g => .slice (some ⟨g, 0, none⟩) n c) (by simp [execOp, ho, hrun]) h
/-- copy into a block of the call's own. -/
theorem wl_copy (hgd : op.guard = none) (d s : Operand) (dT sT : TypeId) (ho : op.op = .call { callee := .builtin .copy, args := #[d, s], argTypes := #[dT, sT] }) (elem : TypeId)
    (hu : P.underlying dT = some (.slice elem)) (hsz : (P.info? elem).map (·.size) = some 1) (hO : Own w0 w L) (k : Nat) (g off : Nat) (cs vs : List Value) (t : TypeId) (hk : L[k]? = some (g, .cells cs.toArray t))
    (dLen dCap : Nat) (ad : Addr) (sLen sCap : Nat) (hd : a.eval d = .slice (some ⟨g, off, none⟩) dLen dCap) (hs : a.eval s = .slice (some ad) sLen sCap) (hn : vs.length = Nat.min sLen dLen)
    (hsrc : ∀ j v, vs[j]? = some v → w.cell? (ad.add j) = some v) (hl : off + vs.length ≤ cs.length) (h1 : ∀ v ∈ vs, v.oneCell' = true)
    (h : ∀ w', Own w0 w' (L.set k (g, .cells (wr cs off vs).toArray t)) → wpList P ops Q rest (a.put op.dst (goInt vs.length)) w') : wpList P ops Q (op :: rest) a w := by
  have hb := hO.heap (List.mem_of_getElem? hk)
  refine wpList_plain hgd fun K hK => ?_
  have hrun := run_copy_cells (P := P) w dT sT op.type elem g off dLen dCap ad sLen sCap vs hu hsz hn hsrc
    (fun j hj => (there_of_heap hb off vs.length hl j hj).1) (fun j hj => (there_of_heap hb off vs.length hl j hj).2) h1
  unfold Oper.wp
  simp [execOp, ho, resolve, invoke, builtin, hd, hs, hrun, Result.andThen]
  exact hK _ _ (h _ (hO.setsAt k hk off vs hl))
/-- A store of one cell. -/
theorem wl_store1 (hgd : op.guard = none) (ty : TypeId) (x y : Operand) (ho : op.op = .store ty x y) (hO : Own w0 w L)
    (k : Nat) (g off : Nat) (cs : Array Value) (v : Value) (t : TypeId) (hk : L[k]? = some (g, .cells cs t)) (hx : a.eval x = .pointer (some ⟨g, off, none⟩)) (hy : a.eval y = v)
    (hv : v.cells = #[v]) (hi : (P.info? ty).map (·.size) = some 1) (h1 : v.oneCell' = true) (hl : off < cs.size)
    (h : ∀ w', Own w0 w' (L.set k (g, .cells (cs.setIfInBounds off v) t)) → wpList P ops Q rest (a.put op.dst undef) w') : wpList P ops Q (op :: rest) a w := by
  have hb := hO.heap (List.mem_of_getElem? hk)
  refine wpList_plain hgd fun K hK => ?_
  have hst := run_storeCells_cells (P := P) g off [v] 0 w (fun j hj => by
      simp only [List.length_singleton] at hj
      obtain rfl : j = 0 := by omega
      rw [cell_of_row w g _ cs t (0, 0) hb]; simp [hl]) (fun j _ => frozen_of_row w g _ cs t hb) (by simpa using h1)
  have hrun : (storeVar ty ⟨g, off, none⟩ v).run P w = .ok () (w.setCell ⟨g, off, none⟩ v) := by
    cases hq : P.info? ty with
    | none => simp [hq] at hi
    | some i =>
      have hs : i.size = 1 := by simpa [hq] using hi
      simp only [Nat.add_zero, World.setCells] at hst
      simp [storeVar, sizeOf, typeInfo, hq, hv, hs, hst]
  unfold Oper.wp
  simp only [execOp, ho, hx, hy, Instr.storeAt, Instr.sureAddr, Sem.run_bind, Sem.run_pure, Result.andThen_ok, hrun]
  exact hK _ _ (h _ (hO.setAt k hk off v))
/-- In the quiet head of a region that draws its order: a run of cells is loaded. -/
theorem ws_load {Q' : Act → Prop} (hgd : op.guard = none) (ty : TypeId) (x : Operand) (ho : op.op = .load ty x) (g off : Nat) (cs vs : List Value) (t : TypeId) (hb : w.heap[g]? = some (.cells cs.toArray t))
    (hx : a.eval x = .pointer (some ⟨g, off, none⟩)) (d : TypeDesc) (hu : P.underlying ty = some d) (hd : d.isRow = true) (hi : (P.info? ty).map (·.size) = some vs.length)
    (hv : (cs.drop off).take vs.length = vs)
    (h : wpStill P ops w Q' rest (a.put op.dst (.agg vs.toArray))) : wpStill P ops w Q' (op :: rest) a := by
  refine wpStill_step fun K hK => ?_
  have hr : w.rangeAt g off vs := by have := range_of_heap hb off vs.length; rwa [hv] at this
  have hw : Region.wanted op (yielded ops a.tmps) = true := by simp [Region.wanted, hgd]
  rw [if_pos hw]
  unfold Oper.still execOp
  simp only [ho, hx, Instr.loadAt, Instr.sureAddr, Sem.run_bind, Sem.run_pure, Result.andThen_ok, run_loadVar_mid w g off ty vs d hr hu hd hi]
  rw [Oper.stillUpon_value]
  exact hK _ h
/-- append of a row that lies somewhere to a row of the call's own. -/
theorem wl_append (hgd : op.guard = none) (s x : Operand) (t : TypeId)
    (ho : op.op = .call { callee := .builtin .append, args := #[s, x], argTypes := #[t, t] })
    (e : TypeId) (z : Value) (size bytes : Nat) (ht : P.underlying t = some (.slice e)) (hinfo : (P.info? e).map (fun i => (i.zero, i.size, i.bytes)) = some (some z, size, bytes)) (hzs : z.cells.size = size) (hsz : 0 < size)
    (v : Value) (n : Nat) (xs : List Value) (hs : a.eval s = v) (hr : IsRow e size v n xs L) (hO : Own w0 w (L ++ R))
    (ad : Addr) (m c : Nat) (news : List Value) (hx : a.eval x = .slice (some ad) m c) (hl : news.length = m * size) (hnews : ∀ j u, news[j]? = some u → w.cell? (ad.add j) = some u) (h1 : ∀ u ∈ news, u.oneCell' = true)
    (h63 : n + m ≤ maxLen) (hbytes : (n + m) * bytes ≤ 140737488355328)
    (h : ∀ v' w' L', IsRow e size v' (n + m) (xs ++ news) L' → Own w0 w' (L' ++ R) → (v' = .slice none 0 0 → v = .slice none 0 0) → wpList P ops Q rest (a.put op.dst v') w') : wpList P ops Q (op :: rest) a w := by
  obtain ⟨i, hi, hz, hz1, hz2⟩ := info_parts hinfo
  refine wpList_append_own_at w hgd s x t ho w0.heap.size e i z size bytes ht hi hz hz1 hz2 hzs hsz v n xs hs (hr.owns hO) ad m c news hx hl hnews h1 h63 hbytes hO.below.size ?_
  intro v' w' h2 h3 h4 h5
  obtain ⟨L', hr', hO'⟩ := hO.grow hr h2 h3 h5
  exact h v' w' L' hr' hO' (fun e => (h4.1 e).1)
end
end Go.Proofs.YtkmfbfmmlldphaaDoor
