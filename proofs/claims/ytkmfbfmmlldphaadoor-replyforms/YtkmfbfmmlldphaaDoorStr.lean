/-
  Strings of bytes.
-/
import Derived.Test.YtkmfbfmmlldphaaDoorLaw
import Derived.Test.YtkmfbfmmlldphaaDoorOps2
import Derived.Test.YtkmfbfmmlldphaaDoorByt
import Derived.Laws.BytesArg
import Derived.Deep.AppendSrc
namespace Go.Proofs.YtkmfbfmmlldphaaDoor
set_option linter.unusedVariables false
set_option linter.unusedSimpArgs false
set_option maxRecDepth 20000
open Go.RowKit

/-! ### strings of bytes -/
theorem strOfNums_inj : ∀ {xs ys : List Int}, Byt xs → Byt ys → strOfNums xs = strOfNums ys → xs = ys := by
  intro xs ys hx hy h
  have h' := congrArg (fun b : ByteArray => b.data.toList) h
  simp only [strOfNums_data] at h'
  have hu : ∀ a b : Int, 0 ≤ a → a ≤ 255 → 0 ≤ b → b ≤ 255 → UInt8.ofNat a.toNat = UInt8.ofNat b.toNat → a = b := by
    intro a b h1 h2 h3 h4 e
    have e' := congrArg UInt8.toNat e
    simp at e'
    omega
  clear h
  induction xs generalizing ys with
  | nil => cases ys with
    | nil => rfl
    | cons y ys => simp at h'
  | cons x xs ih => cases ys with
    | nil => simp at h'
    | cons y ys =>
      simp only [List.map_cons, List.cons.injEq] at h'
      have hxx := hx x (.head _)
      have hyy := hy y (.head _)
      rw [hu x y hxx.1 hxx.2 hyy.1 hyy.2 h'.1, ih (fun a ha => hx a (.tail _ ha)) (fun a ha => hy a (.tail _ ha)) h'.2]
theorem beq_str {xs ys : List Int} (hx : Byt xs) (hy : Byt ys) : ((strOfNums xs).toList == (strOfNums ys).toList) = decide (xs = ys) := by
  by_cases h : xs = ys
  · subst h; simp
  · rw [decide_eq_false h]
    apply beq_eq_false_iff_ne.2
    intro e
    apply h
    rw [ByteArray.toList_eq, ByteArray.toList_eq] at e
    apply strOfNums_inj hx hy
    have e2 : (strOfNums xs).data = (strOfNums ys).data := Array.ext' e
    exact ByteArray.ext e2
theorem convert_str {w : World} {v : Value} {xs : List Int} (h : Bs w v xs) : (convert 49 9 v).run Tryd.prog w = .ok (.string (strOfNums xs)) w := by
  obtain ⟨A, n, c, rfl, hn, hc, hA⟩ := h
  rcases A with _ | ad
  · have h0 : n = 0 := by
      rcases Nat.eq_zero_or_pos n with h0 | h0
      · exact h0
      · obtain ⟨ad, h, _⟩ := hA h0; cases h
    subst h0
    obtain rfl : xs = [] := List.eq_nil_of_length_eq_zero hn
    exact run_convert_bytes_nil w _ _ Tryd.underlying49 Tryd.underlying5 _ _ _ Tryd.underlying9
  · have hl : (loadCells ad n).run Tryd.prog w = .ok (xs.map (Value.int .u8)).toArray w := by
      have := run_loadCells_list (P := Tryd.prog) w ad (xs.map (Value.int .u8)) (fun j v hj => by
        simp only [List.getElem?_map, Option.map_eq_some_iff] at hj
        obtain ⟨x, hx, rfl⟩ := hj
        have hj : j < xs.length := (List.getElem?_eq_some_iff.1 hx).1
        obtain ⟨ad', e, hcell⟩ := hA (by omega)
        cases e
        exact hcell j x hx)
      rwa [List.length_map, hn] at this
    rw [run_convert_bytes_string w _ _ _ _ _ _ Tryd.underlying49 Tryd.underlying5 Tryd.underlying9, run_bytesToString w ad n c xs hl, foldl_push_bytes]
    rw [show ByteArray.empty.data = #[] from rfl, Array.empty_append]; rfl

/-- A string's bytes. -/
def sb (s : ByteArray) : List Int := s.data.toList.map fun b => (b.toNat : Int)
theorem byteCells_sb (s : ByteArray) : byteCells s = bv (sb s) := by simp [byteCells, bv, sb]
theorem length_sb (s : ByteArray) : (sb s).length = s.size := by simp [sb]
theorem byt_sb (s : ByteArray) : Byt (sb s) := by
  intro x hx
  simp only [sb, List.mem_map] at hx
  obtain ⟨b, _, rfl⟩ := hx
  have := b.toNat_lt
  omega
theorem sb_str {xs : List Int} (h : Byt xs) : sb (strOfNums xs) = xs := by
  simp only [sb, strOfNums_data, List.map_map]
  conv => rhs; rw [← List.map_id xs]
  apply List.map_congr_left
  intro x hx
  have := h x hx
  simp
  omega
theorem ba_ext {s t : ByteArray} (h : s.data.toList = t.data.toList) : s = t := by
  cases s; cases t; simp only [ByteArray.mk.injEq]; exact Array.ext' h
theorem str_sb (s : ByteArray) : strOfNums (sb s) = s := by
  apply ba_ext
  simp only [strOfNums_data, sb, List.map_map]
  conv => rhs; rw [← List.map_id s.data.toList]
  apply List.map_congr_left
  intro x hx
  simp
theorem sb_inj {s t : ByteArray} (h : sb s = sb t) : s = t := by rw [← str_sb s, ← str_sb t, h]
section
variable {w0 w : World} {L R : Blks} {ops : Array Oper} {rest : List Oper} {op : Oper} {a : Act} {Q : Exit → Act → World → Prop}
theorem run_append_str (w : World) (base : Nat) (v : Value) (xs : List Int) (hown : w.ownsRow base 5 1 v xs.length (bv xs)) (s : ByteArray) (ty : TypeId)
    (h63 : xs.length + s.size ≤ 1073741824) (hbase : base ≤ w.heap.size) :
    ∃ v' w', (Builtin.append_ #[49, 9] ty #[v, .string s]).run Tryd.prog w = .ok v' w' ∧ w'.ownsRow base 5 1 v' (xs.length + s.size) (bv (xs ++ sb s)) ∧ w.grownBy w' v.ownBlock ∧
      (v'.ownBlock = v.ownBlock ∨ v'.ownBlock = some w.heap.size) := by
  obtain ⟨i, hi, hz, hz1, hz2⟩ := info_parts byte_info
  have hsrc := Src.ofString (P := Tryd.prog) w Tryd.underlying9 s
  have hl : (bv (xs ++ sb s)).length = (xs.length + s.size) * 1 := by simp [length_sb]
  have hb : byteCells s = bv (sb s) := byteCells_sb s
  rcases hown.2 with ⟨rfl, h0⟩ | ⟨g, cap, cur, rfl, hbg, hg, hnc, hcm, hcs, htake⟩
  · have hx : xs = [] := List.eq_nil_of_length_eq_zero h0
    subst hx
    by_cases hs : s.size = 0
    · have hse : sb s = [] := List.eq_nil_of_length_eq_zero (by rw [length_sb]; exact hs)
      refine ⟨.slice none 0 0, w, ?_, ?_, World.grownBy.refl w _, .inl rfl⟩
      · simp [Builtin.append_, run_underlying Tryd.underlying49, run_underlying Tryd.underlying9, sizeOf, typeInfo, hi, hz1, Builtin.lenOf, hs]
        have hf := firstCells_string (P := Tryd.prog) s w
        rw [hs] at hf
        rw [hf]; rfl
      · rw [hse]; simpa [hs] using hown
    · have hrun := run_append_grow_src (P := Tryd.prog) w 49 9 ty 5 i _ Tryd.underlying49 hi hz none 0 0 [] (run_firstCells_none _ _ _ _ _) (.string s) s.size (byteCells s) (by rw [hz1]; exact hsrc) (by omega) (by simp only [List.length_nil] at h63; omega) (by rw [hz2]; have := growslice_fits (need := 0 + s.size) (old := 0) (bytes := 1) (by omega) (by simp only [List.length_nil] at h63; omega); omega)
      refine ⟨_, _, hrun, ?_, ⟨rfl, rfl, rfl, by simp, fun k hk _ => Below.heap_alloc w.drew _ k hk⟩, .inr rfl⟩
      have hge := grownCap_ge w (0 + s.size) 0 5
      refine ⟨hl, .inr ⟨w.heap.size, _, _, rfl, hbase, heap_alloc_new w.drew _, ?_, grownCap_le_maxLen w _ _ _ (by simp only [maxLen]; simp only [List.length_nil] at h63; omega), ?_, ?_⟩⟩
      · simp only [List.length_nil]; exact hge
      · simp only [Array.size_append, List.size_toArray, size_zeroCells, List.nil_append, hb, length_bv, length_sb]
        simp only [Value.cells, List.size_toArray, List.length_cons, List.length_nil]
        omega
      · simp only [Array.toList_append, List.nil_append, hb]
        rw [List.take_append_of_le_length (by simp [length_sb])]
        rw [List.take_of_length_le (by simp [length_sb])]
  · by_cases hroom : xs.length + s.size ≤ cap
    · have hfit : 0 + xs.length * i.size + (byteCells s).length ≤ cur.toList.length := by
        have e1 : cur.toList.length = cap * 1 := by rw [Array.length_toList]; exact hcs
        rw [hz1, byteCells_length, e1]; omega
      have hrun := run_append_room_src (P := Tryd.prog) w 49 9 ty 5 i Tryd.underlying49 hi g 0 xs.length cap (.string s) s.size (byteCells s) (by rw [hz1]; exact hsrc) hroom
        (fun j hj => by
          rw [byteCells_length] at hj
          rw [hz1, cell_of_row w g _ cur _ (0, 0) hg]
          rw [Array.getElem?_eq_getElem (by rw [hcs]; omega)]; rfl)
        (fun j hj => frozen_of_row w g _ cur _ hg)
      have hcl : cur.toList.toArray = cur := by simp
      obtain ⟨h1, h2⟩ := heap_setCells g 5 (byteCells s) (0 + xs.length * i.size) w cur.toList (by rw [hcl]; exact hg) hfit
      refine ⟨_, _, hrun, ⟨hl, .inr ⟨g, cap, _, rfl, hbg, h1, hroom, hcm, ?_, ?_⟩⟩, h2, .inl rfl⟩
      · rw [List.size_toArray, length_wr _ _ _ hfit, Array.length_toList, hcs]
      · simp only [wr, hz1, hb, Nat.zero_add]
        rw [bv_append, htake, List.append_assoc, ← List.append_assoc, List.take_append_of_le_length (by simp [length_sb]), List.take_of_length_le (by simp [length_sb])]
    · have holds : ∀ j u, (bv xs)[j]? = some u → w.cell? ((⟨g, 0, none⟩ : Addr).add j) = some u := hown.cells (g := g) rfl
      have hfo := run_firstCells_some (P := Tryd.prog) w.drew i.size xs.length ⟨g, 0, none⟩ xs.length cap (bv xs) (by rw [hz1]; simp) (by simpa using holds)
      have hrun := run_append_grow_src (P := Tryd.prog) w 49 9 ty 5 i _ Tryd.underlying49 hi hz (some ⟨g, 0, none⟩) xs.length cap (bv xs) hfo (.string s) s.size (byteCells s) (by rw [hz1]; exact hsrc) (by omega) (by omega) (by rw [hz2]; have := growslice_fits (need := xs.length + s.size) (old := cap) (bytes := 1) (by omega) (by omega); omega)
      refine ⟨_, _, hrun, ?_, ⟨rfl, rfl, rfl, by simp, fun k hk _ => Below.heap_alloc w.drew _ k hk⟩, .inr rfl⟩
      have hge := grownCap_ge w (xs.length + s.size) cap 5
      refine ⟨hl, .inr ⟨w.heap.size, _, _, rfl, hbase, heap_alloc_new w.drew _, hge, grownCap_le_maxLen w _ _ _ (by simp only [maxLen]; omega), ?_, ?_⟩⟩
      · simp only [Array.size_append, List.size_toArray, size_zeroCells, List.length_append, hb, length_bv, length_sb]
        simp only [Value.cells, List.size_toArray, List.length_cons, List.length_nil]
        omega
      · simp only [Array.toList_append, hb]
        rw [← bv_append, List.take_append_of_le_length (by simp [length_sb]), List.take_of_length_le (by simp [length_sb])]
/-- append(b, s...). -/
theorem wl_appendS (hgd : op.guard = none) (s x : Operand)
    (ho : op.op = .call { callee := .builtin .append, args := #[s, x], argTypes := #[49, 9] })
    (v : Value) (xs : List Int) (hs : a.eval s = v) (hr : IsBytes v xs L) (hO : Own w0 w (L ++ R))
    (t : ByteArray) (hx : a.eval x = .string t) (h63 : xs.length + t.size ≤ 1073741824)
    (h : ∀ v' w' L', IsBytes v' (xs ++ sb t) L' → Own w0 w' (L' ++ R) → wpList Tryd.prog ops Q rest (a.put op.dst v') w') : wpList Tryd.prog ops Q (op :: rest) a w := by
  obtain ⟨v', w', hrun, h2, h3, h5⟩ := run_append_str w w0.heap.size v xs (hr.owns hO) t op.type h63 hO.below.size
  refine wpList_plain hgd fun K hK => ?_
  unfold Oper.wp execOp
  simp only [ho, resolve, invoke, builtin, Sem.run_bind, Sem.run_pure, Result.andThen_ok, List.map_toArray, List.map_cons, List.map_nil, hs, hx, hrun]
  obtain ⟨L', hr', hO'⟩ := hO.grow hr h2 h3 h5
  refine hK _ _ (h v' w' L' ?_ hO')
  unfold IsBytes
  rw [List.length_append, length_sb]
  exact hr'
end
end Go.Proofs.YtkmfbfmmlldphaaDoor
