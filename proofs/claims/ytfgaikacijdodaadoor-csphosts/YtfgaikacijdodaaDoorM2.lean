/-
  Texts that the laws stand on: Ops2, Byt, Str, Utf, Utf2, Url1, StrOps, Bts.
-/
import Derived.Test.YtfgaikacijdodaaDoorM1
import Derived.Laws.BytesArg
import Derived.Deep.AppendSrc
import Derived.Lib.MapLaws
import Derived.Laws.RangeAny
import Derived.Laws.Runes

/-
  More operations: append and copy from whatever source (nil too); append of a make. No program is named here.
-/
namespace Go.Proofs.YtfgaikacijdodaaDoor
set_option linter.unusedVariables false
set_option linter.unusedSimpArgs false
set_option maxRecDepth 20000
open Go.RowKit

section
variable {P : Program} {w0 w : World} {L R : Blks} {ops : Array Oper} {rest : List Oper} {op : Oper} {a : Act} {Q : Exit → Act → World → Prop}

theorem Bs.vs {w : World} {v : Value} {xs : List Int} (h : Bs w v xs) : Vs w v (bv xs) := by
  obtain ⟨A, n, c, rfl, hn, hc, hA⟩ := h
  refine ⟨A, n, c, rfl, by simpa using hn, hc, fun h0 => ?_⟩
  obtain ⟨ad, rfl, h⟩ := hA h0
  refine ⟨ad, rfl, fun j u hu => ?_⟩
  simp only [bv, List.getElem?_map, Option.map_eq_some_iff] at hu
  obtain ⟨x, hx, rfl⟩ := hu
  exact h j x hx
theorem Vs.len {w : World} {v : Value} {vs : List Value} (h : Vs w v vs) : ∃ A c, v = .slice A vs.length c := by
  obtain ⟨A, n, c, rfl, rfl, _, _⟩ := h; exact ⟨A, c, rfl⟩
theorem Bs.len {w : World} {v : Value} {vs : List Int} (h : Bs w v vs) : ∃ A c, v = .slice A vs.length c ∧ vs.length ≤ c := by
  obtain ⟨A, n, c, rfl, rfl, hc, _⟩ := h; exact ⟨A, c, rfl, hc⟩
theorem run_append_nothing (w : World) (base : Nat) (t ty e : TypeId) (i : TypeInfo) (size : Nat) (ht : P.underlying t = some (.slice e)) (hi : P.info? e = some i)
    (v : Value) (n : Nat) (xs : List Value) (hown : w.ownsRow base e size v n xs) (c : Nat) : (Builtin.append_ #[t, t] ty #[v, .slice none 0 c]).run P w = .ok v w := by
  rcases hown.2 with ⟨rfl, rfl⟩ | ⟨g, cap, cur, rfl, _, _, hnc, _⟩
  · simp [Builtin.append_, run_underlying ht, sizeOf, typeInfo, hi, Builtin.lenOf, Builtin.firstCells]
  · simp [Builtin.append_, run_underlying ht, sizeOf, typeInfo, hi, Builtin.lenOf, Builtin.firstCells, hnc, storeCells]
/-- append of whatever row of one-cell elements, nil too. -/
theorem wl_appendV (hgd : op.guard = none) (s x : Operand) (t : TypeId)
    (ho : op.op = .call { callee := .builtin .append, args := #[s, x], argTypes := #[t, t] })
    (e : TypeId) (z : Value) (bytes : Nat) (ht : P.underlying t = some (.slice e)) (hinfo : (P.info? e).map (fun i => (i.zero, i.size, i.bytes)) = some (some z, 1, bytes)) (hzs : z.cells.size = 1)
    (v : Value) (n : Nat) (xs : List Value) (hs : a.eval s = v) (hr : IsRow e 1 v n xs L) (hO : Own w0 w (L ++ R))
    (xv : Value) (news : List Value) (hx : a.eval x = xv) (hV : Vs w xv news) (h1 : ∀ u ∈ news, u.oneCell' = true)
    (h63 : n + news.length ≤ maxLen) (hbytes : (n + news.length) * bytes ≤ 140737488355328)
    (h : ∀ v' w' L', IsRow e 1 v' (n + news.length) (xs ++ news) L' → Own w0 w' (L' ++ R) → wpList P ops Q rest (a.put op.dst v') w') : wpList P ops Q (op :: rest) a w := by
  obtain ⟨A, m, c, rfl, rfl, hc, hA⟩ := hV
  rcases A with _ | ad
  · have h0 : news.length = 0 := by
      rcases Nat.eq_zero_or_pos news.length with h0 | h0
      · exact h0
      · obtain ⟨ad, h, _⟩ := hA h0; cases h
    have hn : news = [] := List.eq_nil_of_length_eq_zero h0
    subst hn
    obtain ⟨i, hi, hz, hz1, hz2⟩ := info_parts hinfo
    refine wpList_plain hgd fun K hK => ?_
    have hrun := run_append_nothing (P := P) w w0.heap.size t op.type e i 1 ht hi v n xs (hr.owns hO) c
    unfold Oper.wp execOp
    simp only [List.length_nil] at hx
    simp only [ho, resolve, invoke, builtin, Sem.run_bind, Sem.run_pure, Result.andThen_ok, List.map_toArray, List.map_cons, List.map_nil, hs, hx, hrun]
    exact hK _ _ (h v w L (by simpa using hr) hO)
  · refine wl_append hgd s x t ho e z 1 bytes ht hinfo hzs (by omega) v n xs hs hr hO ad news.length c news hx (by simp) ?_ h1 h63 hbytes (fun v' w' L' hr' hO' _ => h v' w' L' hr' hO')
    intro j u hu
    have hj : j < news.length := (List.getElem?_eq_some_iff.1 hu).1
    obtain ⟨ad', h', hc'⟩ := hA (by omega)
    cases h'
    exact hc' j u hu

theorem zeroCells_one (z : Value) (hz : z.cells = #[z]) (n : Nat) : Builtin.zeroCells z.cells n = (List.replicate n z).toArray := by
  apply Array.ext'
  apply List.ext_getElem?
  intro j
  by_cases hj : j < n
  · simp [Builtin.zeroCells, hz, hj, Nat.mod_one]
  · simp [Builtin.zeroCells, hz, hj]
theorem run_appendZ (w : World) (base : Nat) (t tI ty e : TypeId) (k : IntKind) (i : TypeInfo) (z : Value) (bytes : Nat) (ht : P.underlying t = some (.slice e)) (hI : P.underlying tI = some (.int k)) (hi : P.info? e = some i) (hz : i.zero = some z)
    (hsize : i.size = 1) (hby : i.bytes = bytes) (hzs : z.cells = #[z]) (h1 : z.oneCell' = true)
    (v : Value) (n : Nat) (xs : List Value) (hown : w.ownsRow base e 1 v n xs) (m : Nat)
    (h63 : n + m ≤ maxLen) (hbytes : (n + m) * bytes ≤ 140737488355328) (hbase : base ≤ w.heap.size) :
    ∃ v' w', (Builtin.append_ #[t, tI] ty #[v, .int .i64 m]).run P w = .ok v' w' ∧ w'.ownsRow base e 1 v' (n + m) (xs ++ List.replicate m z) ∧ w.grownBy w' v.ownBlock ∧
      (v'.ownBlock = v.ownBlock ∨ v'.ownBlock = some w.heap.size) := by
  subst hby
  have hsmall : n + m ≤ 9223372036854775807 := by simp only [maxLen] at h63; omega
  have hw : IntKind.i64.wrap (m : Int) = m := IntWalk.i64_in _ (by omega)
  have hm0 : ¬ ((m : Int) < 0) := by omega
  have hmb : ¬ (281474976710656 < (m : Int) * (i.bytes : Int)) := by
    have h2 : m * i.bytes ≤ (n + m) * i.bytes := Nat.mul_le_mul_right _ (by omega)
    have h3 : ((m * i.bytes : Nat) : Int) ≤ 140737488355328 := by omega
    rw [Int.natCast_mul] at h3
    omega
  have hlen : (xs ++ List.replicate m z).length = (n + m) * 1 := by rw [List.length_append, hown.1, List.length_replicate]; omega
  have hone : ∀ u ∈ List.replicate m z, u.oneCell' = true := fun u hu => by rw [(List.mem_replicate.1 hu).2]; exact h1
  have grown : ∀ (old : Nat), old < n + m → ∀ (row : Option Nat),
      (w.drew.alloc (.cells (xs.toArray ++ (List.replicate m z).toArray ++ Builtin.zeroCells z.cells (grownCap w (n + m) old e - (n + m))) e)).ownsRow base e 1
        (.slice (some ⟨w.heap.size, 0, none⟩) (n + m) (grownCap w (n + m) old e)) (n + m) (xs ++ List.replicate m z) ∧
      w.grownBy (w.drew.alloc (.cells (xs.toArray ++ (List.replicate m z).toArray ++ Builtin.zeroCells z.cells (grownCap w (n + m) old e - (n + m))) e)) row := by
    intro old ho row
    have hge := grownCap_ge w (n + m) old e
    have hcm : grownCap w (n + m) old e ≤ maxLen := grownCap_le_maxLen w (n + m) old e h63
    refine ⟨⟨hlen, .inr ⟨w.heap.size, _, _, rfl, hbase, heap_alloc_new w.drew _, hge, hcm, ?_, ?_⟩⟩, ⟨rfl, rfl, rfl, by simp, fun k hk _ => Below.heap_alloc w.drew _ k hk⟩⟩
    · simp only [Array.size_append, List.size_toArray, size_zeroCells, hzs, hown.1, List.length_replicate]
      simp only [List.size_toArray, List.length_cons, List.length_nil]
      omega
    · simp only [Array.toList_append, List.append_assoc]
      rw [← List.append_assoc, ← hlen]
      exact List.take_left
  by_cases hm : m = 0
  · subst hm
    have hw0 : IntKind.i64.wrap 0 = 0 := IntWalk.i64_in _ (by omega)
    have hn0 : (Builtin.append_ #[t, tI] ty #[v, .int .i64 ((0 : Nat) : Int)]).run P w = .ok v w := by
      rcases hown.2 with ⟨rfl, rfl⟩ | ⟨g, cap, cur, rfl, _, _, hnc, _⟩
      · simp [Builtin.append_, run_underlying ht, run_underlying hI, sizeOf, typeInfo, hi, asInt, asIntOf, hw0]
      · simp [Builtin.append_, run_underlying ht, run_underlying hI, sizeOf, typeInfo, hi, asInt, asIntOf, hw0, hnc, storeCells]
    exact ⟨v, w, hn0, by simpa using hown, World.grownBy.refl w _, .inl rfl⟩
  · have hms : ¬ (m * i.size = 0) := by rw [hsize]; omega
    rcases hown.2 with ⟨rfl, rfl⟩ | ⟨g, cap, cur, rfl, hbg, hg, hnc, hcm, hcs, htake⟩
    · have hx : xs = [] := List.eq_nil_of_length_eq_zero (by simpa using hown.1)
      subst hx
      have h63' : ¬ (9223372036854775807 < (m : Int)) := by omega
      have h48' : ¬ (281474976710656 < Builtin.nextslicecap m 0 * i.bytes) := by
        have := growslice_fits (need := m) (old := 0) (bytes := i.bytes) (by omega) (by simpa using hbytes); omega
      have hgr := grown 0 (by omega) (Value.ownBlock (.slice none 0 0))
      simp only [Nat.zero_add, List.nil_append, Array.empty_append] at hgr ⊢
      refine ⟨_, _, ?_, hgr.1, hgr.2, Or.inr rfl⟩
      simp [Builtin.append_, run_underlying ht, run_underlying hI, sizeOf, typeInfo, zeroValue, hi, hz, asInt, asIntOf, hw, hm0, hmb, hm, hms, hsize, h63', h48', Question.forced, Builtin.firstCells, newRow, grownCap, zeroCells_one z hzs]
    · by_cases hroom : n + m ≤ cap
      · have hfit : n * 1 + (List.replicate m z).length ≤ cur.size := by rw [hcs, List.length_replicate]; omega
        have hst := run_storeCells_at P g (n * 1) e (List.replicate m z) 0 cur w hg (by simpa using hfit) hone
        simp only [Nat.add_zero] at hst
        refine ⟨.slice (some ⟨g, 0, none⟩) (n + m) cap, w.setRow g (cur.toList.take (n * 1) ++ List.replicate m z ++ cur.toList.drop (n * 1 + (List.replicate m z).length)).toArray, ?_, ⟨hlen, .inr ⟨g, cap, _, rfl, hbg, setRow_heap w g cur _ e _ hg, hroom, hcm, ?_, ?_⟩⟩, ⟨rfl, rfl, rfl, by simp, fun k _ hk => setRow_other w g k _ (fun e => hk (by simp [Value.ownBlock, e]))⟩, Or.inl rfl⟩
        · simp only [Nat.mul_one] at hst
          simp [Builtin.append_, run_underlying ht, run_underlying hI, sizeOf, typeInfo, zeroValue, hi, hz, asInt, asIntOf, hw, hm0, hmb, hm, hms, hsize, hroom, Addr.add_lit, zeroCells_one z hzs, hst]
        · simp only [List.size_toArray, List.length_append, List.length_take, List.length_drop, Array.length_toList]
          omega
        · rw [htake, ← hlen]
          exact List.take_left
      · have holds : ∀ j u, xs[j]? = some u → w.cell? ((⟨g, 0, none⟩ : Addr).add j) = some u := hown.cells (g := g) rfl
        have hn : ¬ (n + m ≤ cap) := hroom
        have h63' : ¬ (9223372036854775807 < ((n : Int) + (m : Int))) := by omega
        have h48' : ¬ (281474976710656 < Builtin.nextslicecap (n + m) cap * i.bytes) := by
          have := growslice_fits (need := n + m) (old := cap) (bytes := i.bytes) (by omega) hbytes; omega
        have hfo := run_firstCells_some (P := P) w.drew i.size n ⟨g, 0, none⟩ n cap xs (by rw [hsize]; exact hown.1) (by simpa using holds)
        have hgr := grown cap (by omega) (Value.ownBlock (.slice (some ⟨g, 0, none⟩) n cap))
        refine ⟨_, _, ?_, hgr.1, hgr.2, Or.inr rfl⟩
        rw [hsize] at hfo
        simp [Builtin.append_, run_underlying ht, run_underlying hI, sizeOf, typeInfo, zeroValue, hi, hz, asInt, asIntOf, hw, hm0, hmb, hm, hms, hsize, hn, h63', h48', Question.forced, hfo, newRow, grownCap, zeroCells_one z hzs]
/-- append of make([]T, m). -/
theorem wl_appendZ (hgd : op.guard = none) (s x : Operand) (t tI : TypeId)
    (ho : op.op = .call { callee := .builtin .append, args := #[s, x], argTypes := #[t, tI] })
    (e : TypeId) (k : IntKind) (z : Value) (bytes : Nat) (ht : P.underlying t = some (.slice e)) (hI : P.underlying tI = some (.int k)) (hinfo : (P.info? e).map (fun i => (i.zero, i.size, i.bytes)) = some (some z, 1, bytes)) (hzs : z.cells = #[z]) (h1 : z.oneCell' = true)
    (v : Value) (n : Nat) (xs : List Value) (hs : a.eval s = v) (hr : IsRow e 1 v n xs L) (hO : Own w0 w (L ++ R))
    (m : Nat) (hx : a.eval x = .int .i64 (m : Int))
    (h63 : n + m ≤ maxLen) (hbytes : (n + m) * bytes ≤ 140737488355328)
    (h : ∀ v' w' L', IsRow e 1 v' (n + m) (xs ++ List.replicate m z) L' → Own w0 w' (L' ++ R) → wpList P ops Q rest (a.put op.dst v') w') : wpList P ops Q (op :: rest) a w := by
  obtain ⟨i, hi, hz, hz1, hz2⟩ := info_parts hinfo
  obtain ⟨v', w', hrun, h2, h3, h5⟩ := run_appendZ (P := P) w w0.heap.size t tI op.type e k i z bytes ht hI hi hz hz1 hz2 hzs h1 v n xs (hr.owns hO) m h63 hbytes hO.below.size
  refine wpList_plain hgd fun K hK => ?_
  unfold Oper.wp execOp
  simp only [ho, resolve, invoke, builtin, Sem.run_bind, Sem.run_pure, Result.andThen_ok, List.map_toArray, List.map_cons, List.map_nil, hs, hx, hrun]
  obtain ⟨L', hr', hO'⟩ := hO.grow hr h2 h3 h5
  exact hK _ _ (h v' w' L' hr' hO')
theorem set_same {α : Type} {l : List α} {k : Nat} {x : α} (h : l[k]? = some x) : l.set k x = l := by
  obtain ⟨hk, e⟩ := List.getElem?_eq_some_iff.1 h
  rw [← e]; exact List.set_getElem_self hk
/-- copy into a block of the call's own, from whatever source that fits whole, nil too. -/
theorem wl_copyV (hgd : op.guard = none) (d s : Operand) (dT sT : TypeId) (ho : op.op = .call { callee := .builtin .copy, args := #[d, s], argTypes := #[dT, sT] }) (elem : TypeId)
    (hu : P.underlying dT = some (.slice elem)) (hsz : (P.info? elem).map (·.size) = some 1) (hO : Own w0 w L) (k : Nat) (g off : Nat) (cs vs : List Value) (t : TypeId) (hk : L[k]? = some (g, .cells cs.toArray t))
    (dLen dCap : Nat) (sv : Value) (hd : a.eval d = .slice (some ⟨g, off, none⟩) dLen dCap) (hs : a.eval s = sv) (hV : Vs w sv vs) (hn : vs.length ≤ dLen)
    (hl : off + vs.length ≤ cs.length) (h1 : ∀ v ∈ vs, v.oneCell' = true)
    (h : ∀ w', Own w0 w' (L.set k (g, .cells (wr cs off vs).toArray t)) → wpList P ops Q rest (a.put op.dst (goInt vs.length)) w') : wpList P ops Q (op :: rest) a w := by
  obtain ⟨A, m, c, rfl, rfl, hc, hA⟩ := hV
  rcases A with _ | ad
  · have h0 : vs.length = 0 := by
      rcases Nat.eq_zero_or_pos vs.length with h0 | h0
      · exact h0
      · obtain ⟨ad, h, _⟩ := hA h0; cases h
    have hvs : vs = [] := List.eq_nil_of_length_eq_zero h0
    subst hvs
    refine wpList_plain hgd fun K hK => ?_
    simp only [List.length_nil] at hs h
    have hmin : Nat.min 0 dLen = 0 := Nat.zero_min _
    obtain ⟨i, hi⟩ : ∃ i, P.info? elem = some i := by
      cases hq : P.info? elem with
      | none => simp [hq] at hsz
      | some i => exact ⟨i, rfl⟩
    unfold Oper.wp
    simp [execOp, ho, resolve, invoke, builtin, hd, hs, Builtin.copy_, run_underlying hu, sizeOf, typeInfo, hi, Builtin.lenOf, Builtin.firstCells, storeCells, hmin]
    refine hK _ _ (h _ ?_)
    rw [wr_nil, set_same hk]
    exact hO
  · refine wl_copy hgd d s dT sT ho elem hu hsz hO k g off cs vs t hk dLen dCap ad vs.length c hd hs (by show _ = min _ _; omega) ?_ hl h1 h
    intro j u hu
    have hj : j < vs.length := (List.getElem?_eq_some_iff.1 hu).1
    obtain ⟨ad', h', hc'⟩ := hA (by omega)
    cases h'
    exact hc' j u hu
end
end Go.Proofs.YtfgaikacijdodaaDoor
/-
  Lists of bytes.
-/
namespace Go.Proofs.YtfgaikacijdodaaDoor
set_option linter.unusedVariables false
set_option linter.unusedSimpArgs false
set_option maxRecDepth 20000
open Go.RowKit

def Byt (xs : List Int) : Prop := ∀ x ∈ xs, 0 ≤ x ∧ x ≤ 255
theorem getD_byt {xs : List Int} (h : Byt xs) (j : Nat) : 0 ≤ xs.getD j 0 ∧ xs.getD j 0 ≤ 255 := by
  by_cases hj : j < xs.length
  · have := h xs[j] (List.getElem_mem hj)
    simpa [List.getD, hj] using this
  · simp [List.getD, hj]
theorem byt_take {xs : List Int} (h : Byt xs) (n : Nat) : Byt (xs.take n) := fun x hx => h x (List.mem_of_mem_take hx)
theorem byt_drop {xs : List Int} (h : Byt xs) (n : Nat) : Byt (xs.drop n) := fun x hx => h x (List.mem_of_mem_drop hx)
theorem byt_append {xs ys : List Int} (h : Byt xs) (h2 : Byt ys) : Byt (xs ++ ys) := fun x hx => (List.mem_append.1 hx).elim (h x) (h2 x)
end Go.Proofs.YtfgaikacijdodaaDoor
/-
  Strings of bytes.
-/
namespace Go.Proofs.YtfgaikacijdodaaDoor
set_option linter.unusedVariables false
set_option linter.unusedSimpArgs false
set_option maxRecDepth 20000
open Go.RowKit

/-! ### strings of bytes -/
theorem strOfNums_inj : ∀ {xs ys : List Int}, Byt xs → Byt ys → strOfNums xs = strOfNums ys → xs = ys := by
  intro xs ys hx hy h
  have h' := congrArg (fun b : ByteArray => b.data.toList) h
  simp only [strOfNums_data] at h'
  have hu : ∀ a b : Int, 0 ≤ a → a ≤ 255 → 0 ≤ b → b ≤ 255 → UInt8.ofNat a.toNat = UInt8.ofNat b.toNat → a = b := by
    intro a b h1 h2 h3 h4 e
    have e' := congrArg UInt8.toNat e
    simp at e'
    omega
  clear h
  induction xs generalizing ys with
  | nil => cases ys with
    | nil => rfl
    | cons y ys => simp at h'
  | cons x xs ih => cases ys with
    | nil => simp at h'
    | cons y ys =>
      simp only [List.map_cons, List.cons.injEq] at h'
      have hxx := hx x (.head _)
      have hyy := hy y (.head _)
      rw [hu x y hxx.1 hxx.2 hyy.1 hyy.2 h'.1, ih (fun a ha => hx a (.tail _ ha)) (fun a ha => hy a (.tail _ ha)) h'.2]
theorem beq_str {xs ys : List Int} (hx : Byt xs) (hy : Byt ys) : ((strOfNums xs).toList == (strOfNums ys).toList) = decide (xs = ys) := by
  by_cases h : xs = ys
  · subst h; simp
  · rw [decide_eq_false h]
    apply beq_eq_false_iff_ne.2
    intro e
    apply h
    rw [ByteArray.toList_eq, ByteArray.toList_eq] at e
    apply strOfNums_inj hx hy
    have e2 : (strOfNums xs).data = (strOfNums ys).data := Array.ext' e
    exact ByteArray.ext e2
theorem convert_str {w : World} {v : Value} {xs : List Int} (h : Bs w v xs) : (convert 64 9 v).run Tryd.prog w = .ok (.string (strOfNums xs)) w := by
  obtain ⟨A, n, c, rfl, hn, hc, hA⟩ := h
  rcases A with _ | ad
  · have h0 : n = 0 := by
      rcases Nat.eq_zero_or_pos n with h0 | h0
      · exact h0
      · obtain ⟨ad, h, _⟩ := hA h0; cases h
    subst h0
    obtain rfl : xs = [] := List.eq_nil_of_length_eq_zero hn
    exact run_convert_bytes_nil w _ _ Tryd.underlying64 Tryd.underlying5 _ _ _ Tryd.underlying9
  · have hl : (loadCells ad n).run Tryd.prog w = .ok (xs.map (Value.int .u8)).toArray w := by
      have := run_loadCells_list (P := Tryd.prog) w ad (xs.map (Value.int .u8)) (fun j v hj => by
        simp only [List.getElem?_map, Option.map_eq_some_iff] at hj
        obtain ⟨x, hx, rfl⟩ := hj
        have hj : j < xs.length := (List.getElem?_eq_some_iff.1 hx).1
        obtain ⟨ad', e, hcell⟩ := hA (by omega)
        cases e
        exact hcell j x hx)
      rwa [List.length_map, hn] at this
    rw [run_convert_bytes_string w _ _ _ _ _ _ Tryd.underlying64 Tryd.underlying5 Tryd.underlying9, run_bytesToString w ad n c xs hl, foldl_push_bytes]
    rw [show ByteArray.empty.data = #[] from rfl, Array.empty_append]; rfl

/-- A string's bytes. -/
def sb (s : ByteArray) : List Int := s.data.toList.map fun b => (b.toNat : Int)
theorem byteCells_sb (s : ByteArray) : byteCells s = bv (sb s) := by simp [byteCells, bv, sb]
theorem length_sb (s : ByteArray) : (sb s).length = s.size := by simp [sb]
theorem byt_sb (s : ByteArray) : Byt (sb s) := by
  intro x hx
  simp only [sb, List.mem_map] at hx
  obtain ⟨b, _, rfl⟩ := hx
  have := b.toNat_lt
  omega
theorem sb_str {xs : List Int} (h : Byt xs) : sb (strOfNums xs) = xs := by
  simp only [sb, strOfNums_data, List.map_map]
  conv => rhs; rw [← List.map_id xs]
  apply List.map_congr_left
  intro x hx
  have := h x hx
  simp
  omega
theorem ba_ext {s t : ByteArray} (h : s.data.toList = t.data.toList) : s = t := by
  cases s; cases t; simp only [ByteArray.mk.injEq]; exact Array.ext' h
theorem str_sb (s : ByteArray) : strOfNums (sb s) = s := by
  apply ba_ext
  simp only [strOfNums_data, sb, List.map_map]
  conv => rhs; rw [← List.map_id s.data.toList]
  apply List.map_congr_left
  intro x hx
  simp
theorem sb_inj {s t : ByteArray} (h : sb s = sb t) : s = t := by rw [← str_sb s, ← str_sb t, h]
section
variable {w0 w : World} {L R : Blks} {ops : Array Oper} {rest : List Oper} {op : Oper} {a : Act} {Q : Exit → Act → World → Prop}
theorem run_append_str (w : World) (base : Nat) (v : Value) (xs : List Int) (hown : w.ownsRow base 5 1 v xs.length (bv xs)) (s : ByteArray) (ty : TypeId)
    (h63 : xs.length + s.size ≤ 1073741824) (hbase : base ≤ w.heap.size) :
    ∃ v' w', (Builtin.append_ #[64, 9] ty #[v, .string s]).run Tryd.prog w = .ok v' w' ∧ w'.ownsRow base 5 1 v' (xs.length + s.size) (bv (xs ++ sb s)) ∧ w.grownBy w' v.ownBlock ∧
      (v'.ownBlock = v.ownBlock ∨ v'.ownBlock = some w.heap.size) := by
  obtain ⟨i, hi, hz, hz1, hz2⟩ := info_parts byte_info
  have hsrc := Src.ofString (P := Tryd.prog) w Tryd.underlying9 s
  have hl : (bv (xs ++ sb s)).length = (xs.length + s.size) * 1 := by simp [length_sb]
  have hb : byteCells s = bv (sb s) := byteCells_sb s
  rcases hown.2 with ⟨rfl, h0⟩ | ⟨g, cap, cur, rfl, hbg, hg, hnc, hcm, hcs, htake⟩
  · have hx : xs = [] := List.eq_nil_of_length_eq_zero h0
    subst hx
    by_cases hs : s.size = 0
    · have hse : sb s = [] := List.eq_nil_of_length_eq_zero (by rw [length_sb]; exact hs)
      refine ⟨.slice none 0 0, w, ?_, ?_, World.grownBy.refl w _, .inl rfl⟩
      · simp [Builtin.append_, run_underlying Tryd.underlying64, run_underlying Tryd.underlying9, sizeOf, typeInfo, hi, hz1, Builtin.lenOf, hs]
        have hf := firstCells_string (P := Tryd.prog) s w
        rw [hs] at hf
        rw [hf]; rfl
      · rw [hse]; simpa [hs] using hown
    · have hrun := run_append_grow_src (P := Tryd.prog) w 64 9 ty 5 i _ Tryd.underlying64 hi hz none 0 0 [] (run_firstCells_none _ _ _ _ _) (.string s) s.size (byteCells s) (by rw [hz1]; exact hsrc) (by omega) (by simp only [List.length_nil] at h63; omega) (by rw [hz2]; have := growslice_fits (need := 0 + s.size) (old := 0) (bytes := 1) (by omega) (by simp only [List.length_nil] at h63; omega); omega)
      refine ⟨_, _, hrun, ?_, ⟨rfl, rfl, rfl, by simp, fun k hk _ => Below.heap_alloc w.drew _ k hk⟩, .inr rfl⟩
      have hge := grownCap_ge w (0 + s.size) 0 5
      refine ⟨hl, .inr ⟨w.heap.size, _, _, rfl, hbase, heap_alloc_new w.drew _, ?_, grownCap_le_maxLen w _ _ _ (by simp only [maxLen]; simp only [List.length_nil] at h63; omega), ?_, ?_⟩⟩
      · simp only [List.length_nil]; exact hge
      · simp only [Array.size_append, List.size_toArray, size_zeroCells, List.nil_append, hb, length_bv, length_sb]
        simp only [Value.cells, List.size_toArray, List.length_cons, List.length_nil]
        omega
      · simp only [Array.toList_append, List.nil_append, hb]
        rw [List.take_append_of_le_length (by simp [length_sb])]
        rw [List.take_of_length_le (by simp [length_sb])]
  · by_cases hroom : xs.length + s.size ≤ cap
    · have hfit : 0 + xs.length * i.size + (byteCells s).length ≤ cur.toList.length := by
        have e1 : cur.toList.length = cap * 1 := by rw [Array.length_toList]; exact hcs
        rw [hz1, byteCells_length, e1]; omega
      have hrun := run_append_room_src (P := Tryd.prog) w 64 9 ty 5 i Tryd.underlying64 hi g 0 xs.length cap (.string s) s.size (byteCells s) (by rw [hz1]; exact hsrc) hroom
        (fun j hj => by
          rw [byteCells_length] at hj
          rw [hz1, cell_of_row w g _ cur _ (0, 0) hg]
          rw [Array.getElem?_eq_getElem (by rw [hcs]; omega)]; rfl)
        (fun j hj => frozen_of_row w g _ cur _ hg)
      have hcl : cur.toList.toArray = cur := by simp
      obtain ⟨h1, h2⟩ := heap_setCells g 5 (byteCells s) (0 + xs.length * i.size) w cur.toList (by rw [hcl]; exact hg) hfit
      refine ⟨_, _, hrun, ⟨hl, .inr ⟨g, cap, _, rfl, hbg, h1, hroom, hcm, ?_, ?_⟩⟩, h2, .inl rfl⟩
      · rw [List.size_toArray, length_wr _ _ _ hfit, Array.length_toList, hcs]
      · simp only [wr, hz1, hb, Nat.zero_add]
        rw [bv_append, htake, List.append_assoc, ← List.append_assoc, List.take_append_of_le_length (by simp [length_sb]), List.take_of_length_le (by simp [length_sb])]
    · have holds : ∀ j u, (bv xs)[j]? = some u → w.cell? ((⟨g, 0, none⟩ : Addr).add j) = some u := hown.cells (g := g) rfl
      have hfo := run_firstCells_some (P := Tryd.prog) w.drew i.size xs.length ⟨g, 0, none⟩ xs.length cap (bv xs) (by rw [hz1]; simp) (by simpa using holds)
      have hrun := run_append_grow_src (P := Tryd.prog) w 64 9 ty 5 i _ Tryd.underlying64 hi hz (some ⟨g, 0, none⟩) xs.length cap (bv xs) hfo (.string s) s.size (byteCells s) (by rw [hz1]; exact hsrc) (by omega) (by omega) (by rw [hz2]; have := growslice_fits (need := xs.length + s.size) (old := cap) (bytes := 1) (by omega) (by omega); omega)
      refine ⟨_, _, hrun, ?_, ⟨rfl, rfl, rfl, by simp, fun k hk _ => Below.heap_alloc w.drew _ k hk⟩, .inr rfl⟩
      have hge := grownCap_ge w (xs.length + s.size) cap 5
      refine ⟨hl, .inr ⟨w.heap.size, _, _, rfl, hbase, heap_alloc_new w.drew _, hge, grownCap_le_maxLen w _ _ _ (by simp only [maxLen]; omega), ?_, ?_⟩⟩
      · simp only [Array.size_append, List.size_toArray, size_zeroCells, List.length_append, hb, length_bv, length_sb]
        simp only [Value.cells, List.size_toArray, List.length_cons, List.length_nil]
        omega
      · simp only [Array.toList_append, hb]
        rw [← bv_append, List.take_append_of_le_length (by simp [length_sb]), List.take_of_length_le (by simp [length_sb])]
/-- append(b, s...). -/
theorem wl_appendS (hgd : op.guard = none) (s x : Operand)
    (ho : op.op = .call { callee := .builtin .append, args := #[s, x], argTypes := #[64, 9] })
    (v : Value) (xs : List Int) (hs : a.eval s = v) (hr : IsBytes v xs L) (hO : Own w0 w (L ++ R))
    (t : ByteArray) (hx : a.eval x = .string t) (h63 : xs.length + t.size ≤ 1073741824)
    (h : ∀ v' w' L', IsBytes v' (xs ++ sb t) L' → Own w0 w' (L' ++ R) → wpList Tryd.prog ops Q rest (a.put op.dst v') w') : wpList Tryd.prog ops Q (op :: rest) a w := by
  obtain ⟨v', w', hrun, h2, h3, h5⟩ := run_append_str w w0.heap.size v xs (hr.owns hO) t op.type h63 hO.below.size
  refine wpList_plain hgd fun K hK => ?_
  unfold Oper.wp execOp
  simp only [ho, resolve, invoke, builtin, Sem.run_bind, Sem.run_pure, Result.andThen_ok, List.map_toArray, List.map_cons, List.map_nil, hs, hx, hrun]
  obtain ⟨L', hr', hO'⟩ := hO.grow hr h2 h3 h5
  refine hK _ _ (h v' w' L' ?_ hO')
  unfold IsBytes
  rw [List.length_append, length_sb]
  exact hr'
end
end Go.Proofs.YtfgaikacijdodaaDoor
/-
  Bytes, runes, percent signs: plain lists; nothing runs here.
-/
namespace Go.Proofs.YtfgaikacijdodaaDoor
set_option linter.unusedVariables false
set_option linter.unusedSimpArgs false
set_option maxRecDepth 20000
open Go.RowKit

/-- The first rune of bytes, and how many it takes. -/
def decI (l : List Int) : Nat × Nat := Lib.decodeN l.length (l.getD 0 0).toNat (l.getD 1 0).toNat (l.getD 2 0).toNat (l.getD 3 0).toNat
theorem getD_sb (s : ByteArray) (k : Nat) : ((sb s).getD k 0).toNat = (s.data.toList.getD k 0).toNat := by
  simp only [sb, List.getD_eq_getElem?_getD, List.getElem?_map]
  cases s.data.toList[k]? <;> simp
theorem decode_sb (s : ByteArray) (pos : Nat) : Utf8.decode s pos = decI ((sb s).drop pos) := by
  rw [Lib.decode_N]
  unfold decI
  have hg : ∀ k, ((sb s).drop pos).getD k 0 = (sb s).getD (pos + k) 0 := fun k => by simp [List.getD_eq_getElem?_getD, List.getElem?_drop]
  rw [hg, hg, hg, hg, getD_sb, getD_sb, getD_sb, getD_sb, List.length_drop, length_sb]
  simp
theorem decI_pos (l : List Int) : 1 ≤ (decI l).2 := Lib.decodeN_ge1 _ _ _ _ _
/-- A rune that may be. -/
def vrune (c : Nat) : Prop := c < 55296 ∨ (57344 ≤ c ∧ c ≤ 1114111)
theorem decI_valid (l : List Int) : vrune (decI l).1 := by
  unfold decI vrune
  rcases Lib.decodeN_shape l.length (l.getD 0 0).toNat (l.getD 1 0).toNat (l.getD 2 0).toNat (l.getD 3 0).toNat with ⟨h, e⟩ | ⟨h, _, _, _, e⟩ | ⟨h, _, _, _, _, h2, e⟩ | ⟨h, _, _, _, _, _, h2, e⟩ | e
  all_goals rw [e]
  all_goals simp only []
  all_goals omega
theorem decI_le {l : List Int} (h : l ≠ []) : (decI l).2 ≤ l.length := by
  have hl : 0 < l.length := List.length_pos_iff.2 h
  unfold decI
  rcases Lib.decodeN_shape l.length (l.getD 0 0).toNat (l.getD 1 0).toNat (l.getD 2 0).toNat (l.getD 3 0).toNat with ⟨h, e⟩ | ⟨h, _, _, _, e⟩ | ⟨h, _, _, _, _, h2, e⟩ | ⟨h, _, _, _, _, _, h2, e⟩ | e
  all_goals rw [e]
  all_goals simp only []
  all_goals omega
/-- A rune's bytes. -/
def encI (c : Nat) : List Int := Lib.encodeRuneZ (c : Int)
theorem encI_one {c : Nat} (h : c ≤ 127) : encI c = [(c : Int)] := Lib.encodeRuneZ_one (by omega) (by omega)
theorem decN_one (n b0 b1 b2 b3 : Nat) (h : b0 < 128) : Lib.decodeN n b0 b1 b2 b3 = (b0, 1) := by
  rcases Lib.decodeN_shape n b0 b1 b2 b3 with ⟨_, e⟩ | ⟨h1, _⟩ | ⟨h1, _⟩ | ⟨h1, _⟩ | e
  · exact e
  all_goals first | omega | skip
  unfold Lib.decodeN
  rw [if_pos h]
theorem decN_two (n b0 b1 b2 b3 : Nat) (h : b0 / 32 = 6) (hn : 1 < n) (h1 : b1 / 64 = 2) (h2 : 128 ≤ b0 % 32 * 64 + b1 % 64) : Lib.decodeN n b0 b1 b2 b3 = (b0 % 32 * 64 + b1 % 64, 2) := by
  unfold Lib.decodeN
  repeat' split
  all_goals first | rfl | omega | (simp_all; done) | (exfalso; simp_all; omega)
theorem decN_three (n b0 b1 b2 b3 : Nat) (h : b0 / 16 = 14) (hn : 2 < n) (h1 : b1 / 64 = 2) (h2 : b2 / 64 = 2) (h3 : 2048 ≤ b0 % 16 * 4096 + b1 % 64 * 64 + b2 % 64) (h4 : b0 % 16 * 4096 + b1 % 64 * 64 + b2 % 64 < 55296 ∨ 57344 ≤ b0 % 16 * 4096 + b1 % 64 * 64 + b2 % 64) :
    Lib.decodeN n b0 b1 b2 b3 = (b0 % 16 * 4096 + b1 % 64 * 64 + b2 % 64, 3) := by
  unfold Lib.decodeN
  repeat' split
  all_goals first | rfl | omega | (simp_all; done) | (exfalso; simp_all; omega)
theorem decN_four (n b0 b1 b2 b3 : Nat) (h : b0 / 8 = 30) (hn : 3 < n) (h1 : b1 / 64 = 2) (h2 : b2 / 64 = 2) (h3 : b3 / 64 = 2) (h4 : 65536 ≤ b0 % 8 * 262144 + b1 % 64 * 4096 + b2 % 64 * 64 + b3 % 64) (h5 : b0 % 8 * 262144 + b1 % 64 * 4096 + b2 % 64 * 64 + b3 % 64 ≤ 1114111) :
    Lib.decodeN n b0 b1 b2 b3 = (b0 % 8 * 262144 + b1 % 64 * 4096 + b2 % 64 * 64 + b3 % 64, 4) := by
  unfold Lib.decodeN
  repeat' split
  all_goals first | rfl | omega | (simp_all; done) | (exfalso; simp_all; omega)
theorem dec_enc {c : Nat} (h : vrune c) (r : List Int) : decI (encI c ++ r) = (c, (encI c).length) := by
  unfold vrune at h
  rcases (by omega : c ≤ 127 ∨ (128 ≤ c ∧ c ≤ 2047) ∨ ((2048 ≤ c ∧ c < 55296) ∨ (57343 < c ∧ c ≤ 65535)) ∨ (65536 ≤ c ∧ c ≤ 1114111)) with h1 | h1 | h1 | h1
  · rw [encI_one h1]
    unfold decI
    rw [decN_one _ _ _ _ _ (by simp; omega)]
    simp
  · have e : encI c = [192 + (c : Int) / 64, 128 + (c : Int) % 64] := Lib.encodeRuneZ_two (by omega) (by omega)
    rw [e]
    unfold decI
    simp only [List.cons_append, List.nil_append, List.getD_cons_zero, List.getD_cons_succ, List.length_cons]
    rw [decN_two _ _ _ _ _ (by omega) (by omega) (by omega) (by omega)]
    refine Prod.ext ?_ (by simp)
    show _ = c
    omega
  · have e : encI c = [224 + (c : Int) / 4096, 128 + (c : Int) / 64 % 64, 128 + (c : Int) % 64] := Lib.encodeRuneZ_three (by omega)
    rw [e]
    unfold decI
    simp only [List.cons_append, List.nil_append, List.getD_cons_zero, List.getD_cons_succ, List.length_cons]
    rw [decN_three _ _ _ _ _ (by omega) (by omega) (by omega) (by omega) (by omega) (by omega)]
    refine Prod.ext ?_ (by simp)
    show _ = c
    omega
  · have e : encI c = [240 + (c : Int) / 262144, 128 + (c : Int) / 4096 % 64, 128 + (c : Int) / 64 % 64, 128 + (c : Int) % 64] := Lib.encodeRuneZ_four (by omega) (by omega)
    rw [e]
    unfold decI
    simp only [List.cons_append, List.nil_append, List.getD_cons_zero, List.getD_cons_succ, List.length_cons]
    rw [decN_four _ _ _ _ _ (by omega) (by omega) (by omega) (by omega) (by omega) (by omega) (by omega)]
    refine Prod.ext ?_ (by simp)
    show _ = c
    omega
theorem encI_byt (c : Nat) : Byt (encI c) := fun x hx => by have := Lib.encodeRuneZ_byte (c : Int) x hx; omega
theorem encI_ne (c : Nat) : encI c ≠ [] := by
  unfold encI Lib.encodeRuneZ
  repeat' split
  all_goals simp
theorem encI_len (c : Nat) : (encI c).length ≤ 4 := by
  unfold encI Lib.encodeRuneZ
  repeat' split
  all_goals simp
/-- The model's own bytes of a rune. -/
theorem sb_encode (r : Int) : sb (Utf8.encode r) = Lib.encodeRuneZ r := by
  unfold Utf8.encode Utf8.valid Utf8.runeError
  have hb : ∀ n : Nat, n < 256 → ((UInt8.ofNat n).toNat : Int) = n := fun n h => by simp; omega
  by_cases hv : (0 ≤ r ∧ r < 55296) ∨ (57344 ≤ r ∧ r ≤ 1114111)
  · obtain ⟨c, rfl⟩ : ∃ c : Nat, r = c := ⟨r.toNat, by omega⟩
    have hv' : (decide (0 ≤ (c : Int)) && decide ((c : Int) < 55296) || decide (57344 ≤ (c : Int)) && decide ((c : Int) ≤ 1114111)) = true := by simp; omega
    simp only [hv', if_true, Int.toNat_natCast]
    rcases (by omega : c ≤ 127 ∨ (128 ≤ c ∧ c ≤ 2047) ∨ ((2048 ≤ c ∧ c < 55296) ∨ (57343 < c ∧ c ≤ 65535)) ∨ (65536 ≤ c ∧ c ≤ 1114111)) with h1 | h1 | h1 | h1
    · rw [if_pos (by omega), Lib.encodeRuneZ_one (by omega) (by omega)]
      simp [sb]; omega
    · rw [if_neg (by omega), if_pos (by omega), Lib.encodeRuneZ_two (by omega) (by omega)]
      simp [sb]; omega
    · rw [if_neg (by omega), if_neg (by omega), if_pos (by omega), Lib.encodeRuneZ_three (by omega)]
      simp [sb]; omega
    · rw [if_neg (by omega), if_neg (by omega), if_neg (by omega), Lib.encodeRuneZ_four (by omega) (by omega)]
      simp [sb]; omega
  · have hv' : (decide (0 ≤ r) && decide (r < 55296) || decide (57344 ≤ r) && decide (r ≤ 1114111)) = false := by simp; omega
    rw [Lib.encodeRuneZ_bad (by omega)]
    simp only [hv', Bool.false_eq_true, if_false]
    rfl
end Go.Proofs.YtfgaikacijdodaaDoor
/-
  Runes of bytes; percent signs; small letters; blanks at the ends: plain lists; nothing runs here.
-/
namespace Go.Proofs.YtfgaikacijdodaaDoor
set_option linter.unusedVariables false
set_option linter.unusedSimpArgs false
set_option maxRecDepth 20000

def runesF : Nat → List Int → List Nat
  | 0, _ => []
  | _ + 1, [] => []
  | f + 1, x :: l => (decI (x :: l)).1 :: runesF f ((x :: l).drop (decI (x :: l)).2)
/-- The runes of bytes, in order. -/
def runes (l : List Int) : List Nat := runesF l.length l
theorem runesF_nil (f : Nat) : runesF f [] = [] := by cases f <;> rfl
theorem runesF_any : ∀ (f g : Nat) (l : List Int), l.length ≤ f → l.length ≤ g → runesF f l = runesF g l
  | f, g, [], _, _ => by rw [runesF_nil, runesF_nil]
  | 0, _, x :: l, h, _ => by simp at h
  | f + 1, 0, x :: l, _, h => by simp at h
  | f + 1, g + 1, x :: l, hf, hg => by
    have h1 := decI_pos (x :: l)
    simp only [List.length_cons] at hf hg
    simp only [runesF]
    rw [runesF_any f g _ (by simp only [List.length_drop, List.length_cons]; omega) (by simp only [List.length_drop, List.length_cons]; omega)]
theorem runes_nil : runes [] = [] := rfl
theorem runes_step {l : List Int} (h : l ≠ []) : runes l = (decI l).1 :: runes (l.drop (decI l).2) := by
  cases l with
  | nil => exact absurd rfl h
  | cons x l =>
    have h1 := decI_pos (x :: l)
    unfold runes
    simp only [List.length_cons, runesF]
    rw [runesF_any l.length ((x :: l).drop (decI (x :: l)).2).length _ (by simp only [List.length_drop, List.length_cons]; omega) (Nat.le_refl _)]
theorem runes_enc {c : Nat} (h : vrune c) (r : List Int) : runes (encI c ++ r) = c :: runes r := by
  have hne : encI c ++ r ≠ [] := by have := encI_ne c; simp [this]
  rw [runes_step hne, dec_enc h]
  simp
theorem runes_encs : ∀ (cs : List Nat), (∀ c ∈ cs, vrune c) → ∀ r, runes (cs.flatMap encI ++ r) = cs ++ runes r
  | [], _, r => by simp
  | c :: cs, h, r => by
    rw [List.flatMap_cons, List.append_assoc, runes_enc (h c (.head _)), runes_encs cs (fun x hx => h x (.tail _ hx))]
    rfl
theorem runesF_valid : ∀ (f : Nat) (l : List Int), ∀ c ∈ runesF f l, vrune c
  | 0, _, c, h => by simp [runesF] at h
  | f + 1, [], c, h => by simp [runesF] at h
  | f + 1, x :: l, c, h => by
    simp only [runesF, List.mem_cons] at h
    rcases h with rfl | h
    · exact decI_valid _
    · exact runesF_valid f _ c h
theorem runes_valid (l : List Int) : ∀ c ∈ runes l, vrune c := runesF_valid _ l
theorem runesF_len : ∀ (f : Nat) (l : List Int), (runesF f l).length ≤ l.length
  | 0, l => by simp [runesF]
  | f + 1, [] => by simp [runesF]
  | f + 1, x :: l => by
    have h1 := decI_pos (x :: l)
    have := runesF_len f ((x :: l).drop (decI (x :: l)).2)
    simp only [List.length_drop, List.length_cons] at this
    simp only [runesF, List.length_cons]
    omega
theorem runes_len (l : List Int) : (runes l).length ≤ l.length := runesF_len _ l
/-- What is UTF-8 has its runes' bytes. -/
def clean (l : List Int) : List Int := (runes l).flatMap encI
theorem runes_clean (l r : List Int) : runes (clean l ++ r) = runes l ++ runes r := runes_encs _ (runes_valid l) r
/-- Bytes below 128 are runes of their own. -/
theorem runes_ascii : ∀ (l : List Int), (∀ x ∈ l, 0 ≤ x ∧ x < 128) → runes l = l.map Int.toNat
  | [], _ => rfl
  | x :: l, h => by
    have hx := h x (.head _)
    have e : x :: l = encI x.toNat ++ l := by rw [encI_one (by omega)]; simp; omega
    rw [e, runes_enc (by unfold vrune; omega), runes_ascii l (fun y hy => h y (.tail _ hy)), ← e]
    rfl
/-! ### percent signs -/
/-- Does the rune stand for itself? -/
def plainR (c : Nat) : Bool := decide (33 ≤ c ∧ c ≤ 126 ∧ c ≠ 34 ∧ c ≠ 96 ∧ c ≠ 35 ∧ c ≠ 60 ∧ c ≠ 62 ∧ c ≠ 63 ∧ c ≠ 123 ∧ c ≠ 125)
theorem plainR_iff (c : Nat) : plainR c = true ↔ (33 ≤ c ∧ c ≤ 126 ∧ c ≠ 34 ∧ c ≠ 96 ∧ c ≠ 35 ∧ c ≠ 60 ∧ c ≠ 62 ∧ c ≠ 63 ∧ c ≠ 123 ∧ c ≠ 125) := by unfold plainR; exact decide_eq_true_iff
/-- A digit to the base 16, greater letters. -/
def hexD (x : Int) : Int := if x < 10 then 48 + x else 55 + x
def pct3 (b : Int) : List Int := [37, hexD (b / 16), hexD (b % 16)]
def pctR (c : Nat) : List Int := if plainR c then [(c : Int)] else (encI c).flatMap pct3
def pctE (l : List Int) : List Int := (runes l).flatMap pctR
theorem hexD_plain {x : Int} (h0 : 0 ≤ x) (h1 : x < 16) : (48 ≤ hexD x ∧ hexD x ≤ 57) ∨ (65 ≤ hexD x ∧ hexD x ≤ 70) := by unfold hexD; split <;> omega
theorem pct3_plain {b : Int} (h : 0 ≤ b ∧ b ≤ 255) : ∀ x ∈ pct3 b, 0 ≤ x ∧ x < 128 ∧ plainR x.toNat = true := by
  have h1 := hexD_plain (x := b / 16) (by omega) (by omega)
  have h2 := hexD_plain (x := b % 16) (by omega) (by omega)
  intro x hx
  simp only [pct3, List.mem_cons, List.not_mem_nil, or_false] at hx
  rw [plainR_iff]
  rcases hx with rfl | rfl | rfl <;> omega
theorem pctR_plain (c : Nat) : ∀ x ∈ pctR c, 0 ≤ x ∧ x < 128 ∧ plainR x.toNat = true := by
  intro x hx
  unfold pctR at hx
  split at hx
  · rename_i h
    rw [List.mem_singleton] at hx
    subst hx
    have := (plainR_iff c).1 h
    exact ⟨by omega, by omega, by simpa using h⟩
  · rw [List.mem_flatMap] at hx
    obtain ⟨b, hb, hx⟩ := hx
    exact pct3_plain (encI_byt c b hb) x hx
theorem pctE_plain (l : List Int) : ∀ x ∈ pctE l, 0 ≤ x ∧ x < 128 ∧ plainR x.toNat = true := by
  intro x hx
  rw [pctE, List.mem_flatMap] at hx
  obtain ⟨c, _, hx⟩ := hx
  exact pctR_plain c x hx
theorem pctE_same {l : List Int} (h : ∀ x ∈ l, 0 ≤ x ∧ x < 128 ∧ plainR x.toNat = true) : pctE l = l := by
  unfold pctE
  rw [runes_ascii l (fun x hx => ⟨(h x hx).1, (h x hx).2.1⟩)]
  induction l with
  | nil => rfl
  | cons x l ih =>
    have hx := h x (.head _)
    rw [List.map_cons, List.flatMap_cons, ih (fun y hy => h y (.tail _ hy))]
    unfold pctR
    rw [if_pos hx.2.2]
    simp; omega
theorem pctE_twice (l : List Int) : pctE (pctE l) = pctE l := pctE_same (pctE_plain l)
theorem pctE_clean (l r : List Int) : pctE (clean l ++ r) = pctE l ++ pctE r := by unfold pctE; rw [runes_clean, List.flatMap_append]
theorem pctR_len (c : Nat) : (pctR c).length ≤ 12 := by
  unfold pctR
  split
  · simp
  · have h : ∀ l : List Int, (l.flatMap pct3).length = 3 * l.length := by
      intro l
      induction l with
      | nil => rfl
      | cons x l ih => rw [List.flatMap_cons, List.length_append, ih]; simp [pct3]; omega
    rw [h]; have := encI_len c; omega
theorem flatMap_len {α : Type} (f : α → List Int) (k : Nat) (h : ∀ a, (f a).length ≤ k) (l : List α) : (l.flatMap f).length ≤ k * l.length := by
  induction l with
  | nil => simp
  | cons x l ih => rw [List.flatMap_cons, List.length_append, List.length_cons, Nat.mul_succ]; have := h x; omega
theorem pctE_len (l : List Int) : (pctE l).length ≤ 12 * l.length := by
  have h1 := flatMap_len pctR 12 pctR_len (runes l)
  have h2 := runes_len l
  have h3 : 12 * (runes l).length ≤ 12 * l.length := Nat.mul_le_mul_left 12 h2
  exact Nat.le_trans h1 h3
/-! ### back -/
def digI (c : Int) : Option Int := if 48 ≤ c ∧ c ≤ 57 then some (c - 48) else if 97 ≤ c ∧ c ≤ 102 then some (c - 87) else if 65 ≤ c ∧ c ≤ 70 then some (c - 55) else none
theorem digI_hex {x : Int} (h0 : 0 ≤ x) (h1 : x < 16) : digI (hexD x) = some x := by
  unfold digI hexD
  split
  · rw [if_pos (by omega)]; congr 1; omega
  · rw [if_neg (by omega), if_neg (by omega), if_pos (by omega)]; congr 1; omega
def unpF : Nat → List Int → Option (List Int)
  | _, [] => some []
  | 0, _ :: _ => none
  | f + 1, x :: r =>
    if x = 37 then
      (match r with
        | a :: b :: q => (digI a).bind fun h => (digI b).bind fun l => (unpF f q).map fun t => (16 * h + l) :: t
        | _ => none)
    else (unpF f r).map fun t => x :: t
/-- Percent signs taken back; none where one lacks its digits. -/
def unp (l : List Int) : Option (List Int) := unpF l.length l
theorem unpF_any : ∀ (f g : Nat) (l : List Int), l.length ≤ f → l.length ≤ g → unpF f l = unpF g l
  | f, g, [], _, _ => by cases f <;> cases g <;> rfl
  | 0, _, x :: l, h, _ => by simp at h
  | f + 1, 0, x :: l, _, h => by simp at h
  | f + 1, g + 1, x :: r, hf, hg => by
    simp only [List.length_cons] at hf hg
    simp only [unpF]
    split
    · match r with
      | [] => rfl
      | [a] => rfl
      | a :: b :: q =>
        simp only [List.length_cons] at hf hg
        simp only []
        rw [unpF_any f g q (by omega) (by omega)]
    · rw [unpF_any f g r (by omega) (by omega)]
theorem unp_nil : unp [] = some [] := rfl
theorem unp_other {x : Int} (h : x ≠ 37) (r : List Int) : unp (x :: r) = (unp r).map fun t => x :: t := by
  unfold unp
  simp only [List.length_cons, unpF, if_neg h]
theorem unp_pct (a b : Int) (q : List Int) : unp (37 :: a :: b :: q) = (digI a).bind fun h => (digI b).bind fun l => (unp q).map fun t => (16 * h + l) :: t := by
  unfold unp
  simp only [List.length_cons, unpF, if_true]
  rw [unpF_any (q.length + 1 + 1) q.length q (by omega) (Nat.le_refl _)]
theorem unp_short1 : unp [37] = none := rfl
theorem unp_short2 (a : Int) : unp [37, a] = none := rfl
theorem unp_pct3 {b : Int} (h : 0 ≤ b ∧ b ≤ 255) (r : List Int) : unp (pct3 b ++ r) = (unp r).map fun t => b :: t := by
  show unp (37 :: hexD (b / 16) :: hexD (b % 16) :: r) = _
  rw [unp_pct, digI_hex (by omega) (by omega), digI_hex (by omega) (by omega)]
  simp only [Option.bind_some]
  rw [show 16 * (b / 16) + b % 16 = b by omega]
theorem unp_pct3s : ∀ (bs : List Int), Byt bs → ∀ r, unp (bs.flatMap pct3 ++ r) = (unp r).map fun t => bs ++ t
  | [], _, r => by simp
  | b :: bs, h, r => by
    rw [List.flatMap_cons, List.append_assoc, unp_pct3 (h b (.head _)), unp_pct3s bs (fun x hx => h x (.tail _ hx))]
    cases unp r <;> simp
theorem unp_pctR {c : Nat} (h : c ≠ 37) (r : List Int) : unp (pctR c ++ r) = (unp r).map fun t => encI c ++ t := by
  unfold pctR
  split
  · rename_i hp
    have := (plainR_iff c).1 hp
    rw [List.singleton_append, unp_other (by omega), encI_one (by omega)]
    rfl
  · exact unp_pct3s _ (encI_byt c) r
theorem unp_pctRs : ∀ (cs : List Nat), (∀ c ∈ cs, c ≠ 37) → unp (cs.flatMap pctR) = some (cs.flatMap encI)
  | [], _ => rfl
  | c :: cs, h => by
    rw [List.flatMap_cons, unp_pctR (h c (.head _)), unp_pctRs cs (fun x hx => h x (.tail _ hx))]
    simp
theorem unpF_len : ∀ (f : Nat) (l t : List Int), unpF f l = some t → t.length ≤ l.length
  | f, [], t, h => by cases f <;> (simp only [unpF, Option.some.injEq] at h; subst h; simp)
  | 0, _ :: _, t, h => by simp [unpF] at h
  | f + 1, x :: r, t, h => by
    simp only [unpF] at h
    split at h
    · match r, h with
      | [], h => cases h
      | [a], h => cases h
      | a :: b :: q, h =>
        simp only [Option.bind_eq_some_iff, Option.map_eq_some_iff] at h
        obtain ⟨_, _, _, _, u, hu, rfl⟩ := h
        have := unpF_len f q u hu
        simp only [List.length_cons]; omega
    · simp only [Option.map_eq_some_iff] at h
      obtain ⟨u, hu, rfl⟩ := h
      have := unpF_len f r u hu
      simp only [List.length_cons]; omega
theorem unp_len {l t : List Int} (h : unp l = some t) : t.length ≤ l.length := unpF_len _ l t h
theorem digI_lt {c x : Int} (h : digI c = some x) : 0 ≤ x ∧ x < 16 := by
  unfold digI at h
  split at h
  · cases h; omega
  · split at h
    · cases h; omega
    · split at h
      · cases h; omega
      · cases h
theorem unpF_byt : ∀ (f : Nat) (l t : List Int), Byt l → unpF f l = some t → Byt t
  | f, [], t, _, h => by cases f <;> (simp only [unpF, Option.some.injEq] at h; subst h; intro x hx; cases hx)
  | 0, _ :: _, t, _, h => by simp [unpF] at h
  | f + 1, x :: r, t, hB, h => by
    simp only [unpF] at h
    split at h
    · match r, hB, h with
      | [], _, h => cases h
      | [a], _, h => cases h
      | a :: b :: q, hB, h =>
        simp only [Option.bind_eq_some_iff, Option.map_eq_some_iff] at h
        obtain ⟨h1, e1, l1, e2, u, hu, rfl⟩ := h
        have b1 := digI_lt e1
        have b2 := digI_lt e2
        have := unpF_byt f q u (fun y hy => hB y (.tail _ (.tail _ (.tail _ hy)))) hu
        intro y hy
        rcases List.mem_cons.1 hy with rfl | hy
        · omega
        · exact this y hy
    · simp only [Option.map_eq_some_iff] at h
      obtain ⟨u, hu, rfl⟩ := h
      have := unpF_byt f r u (fun y hy => hB y (.tail _ hy)) hu
      intro y hy
      rcases List.mem_cons.1 hy with rfl | hy
      · exact hB y (.head _)
      · exact this y hy
theorem unp_byt {l t : List Int} (hB : Byt l) (h : unp l = some t) : Byt t := unpF_byt _ l t hB h
/-! ### small letters; blanks -/
def lowI (c : Int) : Int := if 65 ≤ c ∧ c ≤ 90 then c + 32 else c
theorem lowI_twice (c : Int) : lowI (lowI c) = lowI c := by unfold lowI; repeat' split <;> omega
def lowL (l : List Int) : List Int := l.map lowI
theorem lowL_twice (l : List Int) : lowL (lowL l) = lowL l := by simp only [lowL, List.map_map]; exact List.map_congr_left (fun x _ => lowI_twice x)
theorem lowL_append (l m : List Int) : lowL (l ++ m) = lowL l ++ lowL m := by simp [lowL]
theorem lowL_byt {l : List Int} (h : Byt l) : Byt (lowL l) := by
  intro x hx
  simp only [lowL, List.mem_map] at hx
  obtain ⟨y, hy, rfl⟩ := hx
  have := h y hy
  unfold lowI; split <;> omega
def blank (x : Int) : Bool := decide (x ≤ 32)
def trimI (l : List Int) : List Int := ((l.dropWhile blank).reverse.dropWhile blank).reverse
theorem dropWhile_idem (p : Int → Bool) : ∀ l : List Int, (l.dropWhile p).dropWhile p = l.dropWhile p
  | [] => rfl
  | x :: l => by
    by_cases h : p x = true
    · rw [List.dropWhile_cons_of_pos h]; exact dropWhile_idem p l
    · rw [List.dropWhile_cons_of_neg h, List.dropWhile_cons_of_neg h]
theorem trimI_twice (l : List Int) : trimI (trimI l) = trimI l := by
  have key : ∀ b : List Int, b.dropWhile blank = b → b.reverse.dropWhile blank = b.reverse → trimI b = b := by
    intro b h1 h2
    unfold trimI
    rw [h1, h2, List.reverse_reverse]
  apply key
  · unfold trimI
    generalize ha : l.dropWhile blank = a
    have hid : a.dropWhile blank = a := by rw [← ha]; exact dropWhile_idem _ _
    have hp : (a.reverse.dropWhile blank).reverse <+: a := by
      have h1 := List.dropWhile_suffix (l := a.reverse) blank
      have h2 := List.reverse_prefix.2 h1
      rwa [List.reverse_reverse] at h2
    generalize (a.reverse.dropWhile blank).reverse = b at hp
    cases b with
    | nil => rfl
    | cons x b =>
      obtain ⟨r, hr⟩ := hp
      rw [← hr, List.cons_append] at hid
      by_cases hx : blank x = true
      · rw [List.dropWhile_cons_of_pos hx] at hid
        have h1 : ((b ++ r).dropWhile blank).length ≤ (b ++ r).length := (List.dropWhile_sublist _).length_le
        rw [hid] at h1
        simp at h1
        omega
      · rw [List.dropWhile_cons_of_neg hx]
  · unfold trimI
    rw [List.reverse_reverse]
    exact dropWhile_idem _ _
theorem trimI_sub (l : List Int) : (trimI l).Sublist l := by
  unfold trimI
  have h1 := (List.dropWhile_sublist blank (l := (l.dropWhile blank).reverse)).reverse
  rw [List.reverse_reverse] at h1
  exact h1.trans (List.dropWhile_sublist _)
end Go.Proofs.YtfgaikacijdodaaDoor
/-
  URLs: plain lists; nothing runs here.
-/
namespace Go.Proofs.YtfgaikacijdodaaDoor
set_option linter.unusedVariables false
set_option linter.unusedSimpArgs false
set_option maxRecDepth 20000

/-! ### parts of a text -/
def ahead (stops : List Int) (l : List Int) : List Int := l.takeWhile fun x => !stops.contains x
def behind (stops : List Int) (l : List Int) : List Int := l.dropWhile fun x => !stops.contains x
theorem ahead_behind (stops l : List Int) : ahead stops l ++ behind stops l = l := List.takeWhile_append_dropWhile
theorem ahead_len (stops l : List Int) : (ahead stops l).length ≤ l.length := (List.takeWhile_sublist _).length_le
theorem behind_len (stops l : List Int) : (behind stops l).length ≤ l.length := (List.dropWhile_sublist _).length_le
theorem ahead_byt {stops l : List Int} (h : Byt l) : Byt (ahead stops l) := fun x hx => h x ((List.takeWhile_sublist _).subset hx)
theorem behind_byt {stops l : List Int} (h : Byt l) : Byt (behind stops l) := fun x hx => h x ((List.dropWhile_sublist _).subset hx)
/-- None of the first i bytes is a stop, the next one is. -/
theorem ahead_at {stops l : List Int} {i : Nat} (hi : i < l.length) (h : ∀ j, j < i → stops.contains (l.getD j 0) = false) (hs : stops.contains (l.getD i 0) = true) : ahead stops l = l.take i ∧ behind stops l = l.drop i := by
  induction l generalizing i with
  | nil => simp at hi
  | cons x l ih =>
    cases i with
    | zero =>
      rw [List.getD_cons_zero] at hs
      unfold ahead behind
      rw [List.takeWhile_cons_of_neg (by rw [hs]; simp), List.dropWhile_cons_of_neg (by rw [hs]; simp)]
      simp
    | succ i =>
      have h0 := h 0 (by omega)
      rw [List.getD_cons_zero] at h0
      have := ih (i := i) (by simp at hi; omega) (fun j hj => by have := h (j + 1) (by omega); rwa [List.getD_cons_succ] at this) (by rwa [List.getD_cons_succ] at hs)
      unfold ahead behind at *
      rw [List.takeWhile_cons_of_pos (by rw [h0]; rfl), List.dropWhile_cons_of_pos (by rw [h0]; rfl), this.1, this.2]
      simp
theorem ahead_none {stops l : List Int} (h : ∀ j, j < l.length → stops.contains (l.getD j 0) = false) : ahead stops l = l ∧ behind stops l = [] := by
  induction l with
  | nil => exact ⟨rfl, rfl⟩
  | cons x l ih =>
    have h0 := h 0 (by simp)
    rw [List.getD_cons_zero] at h0
    have := ih (fun j hj => by have := h (j + 1) (by simp; omega); rwa [List.getD_cons_succ] at this)
    unfold ahead behind at *
    rw [List.takeWhile_cons_of_pos (by rw [h0]; rfl), List.dropWhile_cons_of_pos (by rw [h0]; rfl), this.1, this.2]
    exact ⟨rfl, rfl⟩
/-- Does it begin so? -/
def begI (p l : List Int) : Bool := decide (l.take p.length = p)
theorem begI_iff {p l : List Int} : begI p l = true ↔ l.take p.length = p := by unfold begI; exact decide_eq_true_iff
theorem begI_drop {p l : List Int} (h : begI p l = true) : l = p ++ l.drop p.length := by
  have := List.take_append_drop p.length l
  rw [begI_iff.1 h] at this
  exact this.symm
theorem begI_len {p l : List Int} (h : begI p l = true) : p.length ≤ l.length := by
  have := congrArg List.length (begI_iff.1 h)
  rw [List.length_take] at this; omega
theorem begI_short {p l : List Int} (h : l.length < p.length) : begI p l = false := by
  rw [← Bool.not_eq_true]; intro e; have := begI_len e; omega
/-! ### hosts -/
def HB (x : Int) : Prop := (97 ≤ x ∧ x ≤ 122) ∨ (48 ≤ x ∧ x ≤ 57) ∨ x = 45 ∨ x = 46
instance (x : Int) : Decidable (HB x) := by unfold HB; infer_instance
def HostAt (l : List Int) (j : Nat) : Prop := HB (l.getD j 0) ∧ ¬ (l.getD j 0 = 46 ∧ l.getD (j + 1) 0 = 46)
instance (l : List Int) (j : Nat) : Decidable (HostAt l j) := by unfold HostAt; infer_instance
def HostOk (l : List Int) : Prop := 1 ≤ l.length ∧ l.length ≤ 20 ∧ l.getD 0 0 ≠ 46 ∧ l.getD (l.length - 1) 0 ≠ 46 ∧ ∀ j, j < l.length → HostAt l j
instance (l : List Int) : Decidable (HostOk l) := by unfold HostOk; infer_instance
/-! ### numbers -/
def digF : Nat → Nat → List Int
  | 0, n => [48 + ((n % 10 : Nat) : Int)]
  | f + 1, n => if n < 10 then [48 + (n : Int)] else digF f (n / 10) ++ [48 + ((n % 10 : Nat) : Int)]
/-- The digits of a number. -/
def digs (n : Nat) : List Int := digF 20 n
theorem digF_any : ∀ (f g n : Nat), n < 10 ^ (f + 1) → n < 10 ^ (g + 1) → digF f n = digF g n
  | 0, 0, n, _, _ => rfl
  | 0, g + 1, n, h, _ => by
    have h' : n < 10 := by simpa using h
    simp only [digF, if_pos h', Nat.mod_eq_of_lt h']
  | f + 1, 0, n, _, h => by
    have h' : n < 10 := by simpa using h
    simp only [digF, if_pos h', Nat.mod_eq_of_lt h']
  | f + 1, g + 1, n, h1, h2 => by
    simp only [digF]
    split
    · rfl
    · rw [digF_any f g (n / 10) (by rw [Nat.pow_succ] at h1; omega) (by rw [Nat.pow_succ] at h2; omega)]
theorem digs_small {n : Nat} (h : n < 10) : digs n = [48 + (n : Int)] := by unfold digs; simp only [digF, if_pos h]
theorem digs_step {n : Nat} (h : 10 ≤ n) (hn : n < 10 ^ 19) : digs n = digs (n / 10) ++ [48 + ((n % 10 : Nat) : Int)] := by
  unfold digs
  rw [show digF 20 n = digF 19 (n / 10) ++ [48 + ((n % 10 : Nat) : Int)] by simp only [digF]; rw [if_neg (by omega)]]
  rw [digF_any 19 20 (n / 10) (by omega) (by omega)]
theorem digF_len : ∀ (f n : Nat), 1 ≤ (digF f n).length ∧ (digF f n).length ≤ f + 1
  | 0, n => by simp [digF]
  | f + 1, n => by
    simp only [digF]
    split
    · simp
    · have := digF_len f (n / 10); simp; omega
theorem digs_len (n : Nat) : 1 ≤ (digs n).length ∧ (digs n).length ≤ 21 := digF_len 20 n
theorem digF_dig : ∀ (f n : Nat), ∀ x ∈ digF f n, 48 ≤ x ∧ x ≤ 57
  | 0, n, x, h => by simp only [digF, List.mem_singleton] at h; omega
  | f + 1, n, x, h => by
    simp only [digF] at h
    split at h
    · rw [List.mem_singleton] at h; omega
    · rcases List.mem_append.1 h with h | h
      · exact digF_dig f _ x h
      · rw [List.mem_singleton] at h; omega
theorem digs_dig (n : Nat) : ∀ x ∈ digs n, 48 ≤ x ∧ x ≤ 57 := digF_dig 20 n
theorem digs_byt (n : Nat) : Byt (digs n) := fun x hx => by have := digs_dig n x hx; omega
/-- The number that digits tell. -/
def figN (l : List Int) : Int := l.foldl (fun n c => 10 * n + (c - 48)) 0
theorem figN_snoc (l : List Int) (c : Int) : figN (l ++ [c]) = 10 * figN l + (c - 48) := by unfold figN; rw [List.foldl_append]; rfl
theorem figF_bound : ∀ (l : List Int) (n : Int) (k : Nat), 0 ≤ n → n < 10 ^ k → (∀ x ∈ l, 48 ≤ x ∧ x ≤ 57) → 0 ≤ l.foldl (fun n c => 10 * n + (c - 48)) n ∧ l.foldl (fun n c => 10 * n + (c - 48)) n < 10 ^ (k + l.length)
  | [], n, k, h0, h1, _ => ⟨h0, h1⟩
  | c :: l, n, k, h0, h1, h => by
    have hc := h c (.head _)
    have e : (10 : Int) ^ (k + 1) = 10 ^ k * 10 := Int.pow_succ ..
    have := figF_bound l (10 * n + (c - 48)) (k + 1) (by omega) (by rw [e]; generalize (10 : Int) ^ k = p at *; omega) (fun x hx => h x (.tail _ hx))
    rw [List.foldl_cons, List.length_cons, show k + (l.length + 1) = k + 1 + l.length by omega]
    exact this
theorem figN_bound (l : List Int) (h : ∀ x ∈ l, 48 ≤ x ∧ x ≤ 57) : 0 ≤ figN l ∧ figN l < 10 ^ l.length := by
  have := figF_bound l 0 0 (by omega) (by decide) h
  rwa [Nat.zero_add] at this
def FigOk (l : List Int) (least most : Int) : Prop := least ≤ l.length ∧ (l.length : Int) ≤ most ∧ ∀ x ∈ l, 48 ≤ x ∧ x ≤ 57
instance (l : List Int) (a b : Int) : Decidable (FigOk l a b) := by unfold FigOk; infer_instance
def figI (l : List Int) (least most : Int) : Option Int := if FigOk l least most then some (figN l) else none
theorem figN_digs : ∀ (f n : Nat), n < 10 ^ (f + 1) → figN (digF f n) = n
  | 0, n, h => by
    have h' : n < 10 := by simpa using h
    simp [digF, figN]; omega
  | f + 1, n, h => by
    simp only [digF]
    split
    · simp [figN]; omega
    · rw [figN_snoc, figN_digs f (n / 10) (by rw [Nat.pow_succ] at h; omega)]
      omega
theorem fig_digs {n : Nat} (h : n < 10 ^ 19) : figN (digs n) = n := figN_digs 20 n (by omega)
/-! ### paths -/
def partsI : List Int → List (List Int)
  | [] => [[]]
  | c :: r => if c = 47 then [] :: partsI r else match partsI r with
    | p :: ps => (c :: p) :: ps
    | [] => [[c]]
theorem partsI_ne (l : List Int) : partsI l ≠ [] := by
  cases l with
  | nil => simp [partsI]
  | cons c r => unfold partsI; split; simp; split <;> simp
theorem partsI_at : ∀ (l : List Int), partsI l = match behind [47] l with
    | [] => [ahead [47] l]
    | _ :: r => ahead [47] l :: partsI r
  | [] => rfl
  | c :: r => by
    by_cases hc : c = 47
    · subst hc
      show partsI (47 :: r) = _
      have h1 : behind [47] (47 :: r) = 47 :: r := by unfold behind; rw [List.dropWhile_cons_of_neg (by simp)]
      have h2 : ahead [47] (47 :: r) = [] := by unfold ahead; rw [List.takeWhile_cons_of_neg (by simp)]
      rw [h1, h2]
      simp [partsI]
    · have h1 : behind [47] (c :: r) = behind [47] r := by unfold behind; rw [List.dropWhile_cons_of_pos (by simp [hc])]
      have h2 : ahead [47] (c :: r) = c :: ahead [47] r := by unfold ahead; rw [List.takeWhile_cons_of_pos (by simp [hc])]
      rw [h1, h2]
      have ih := partsI_at r
      simp only [partsI, if_neg hc]
      rw [ih]
      cases behind [47] r <;> rfl
theorem partsI_end {l : List Int} (h : behind [47] l = []) : partsI l = [ahead [47] l] := by rw [partsI_at, h]
theorem partsI_more {l : List Int} {c : Int} {r : List Int} (h : behind [47] l = c :: r) : partsI l = ahead [47] l :: partsI r := by rw [partsI_at, h]
/-- One part behind others. -/
def dotStep (st : List (List Int)) (p : List Int) (last : Bool) : List (List Int) :=
  if p = [46] ∨ p = [46, 46] then
    (let st1 := if p = [46, 46] then st.dropLast else st
     if last then st1 ++ [[]] else st1)
  else st ++ [pctE p]
def dotGo : List (List Int) → List (List Int) → List (List Int)
  | st, [] => st
  | st, [p] => dotStep st p true
  | st, p :: q :: r => dotGo (dotStep st p false) (q :: r)
def slashed (ps : List (List Int)) : List Int := ps.flatMap fun p => 47 :: p
/-- A path without its points. -/
def dotsI (path : List Int) : List Int := slashed (dotGo [] (partsI (path.drop 1)))
/-! ### URLs -/
structure UL where
  sch : List Int
  host : List Int
  port : Int
  path : List Int
  query : List Int
def httpI : List Int := [104, 116, 116, 112]
def httpsI : List Int := [104, 116, 116, 112, 115]
def ownI (sch : List Int) : Int := if sch = httpsI then 443 else 80
def schemeI (t : List Int) : Option (List Int × List Int) :=
  if begI (httpI ++ [58, 47, 47]) (lowL t) then some (httpI, t.drop 7) else if begI (httpsI ++ [58, 47, 47]) (lowL t) then some (httpsI, t.drop 8) else none
def portI (sch rest : List Int) : Option (Int × List Int) :=
  if begI [58] rest then
    (figI (ahead [47, 63, 35] (rest.drop 1)) 1 5).bind fun n => if 65535 < n then none else some (if n = ownI sch then 0 else n, behind [47, 63, 35] (rest.drop 1))
  else some (0, rest)
def originI (u : UL) : List Int := u.sch ++ [58, 47, 47] ++ u.host ++ (if 0 < u.port then 58 :: digs u.port.toNat else [])
def printI (u : UL) : List Int := originI u ++ u.path ++ u.query
def queryI (q : List Int) : List Int := if 1 < q.length then 63 :: pctE (q.drop 1) else []
def restI (sch host : List Int) (port : Int) (rest : List Int) : Option UL :=
  let r := ahead [35] rest
  let u : UL := ⟨sch, host, port, dotsI (ahead [63] r), queryI (behind [63] r)⟩
  if 40 < (printI u).length then none else some u
def hostI (sch r : List Int) : Option UL :=
  if HostOk (lowL (ahead [58, 47, 63, 35] r)) then (portI sch (behind [58, 47, 63, 35] r)).bind fun p => restI sch (lowL (ahead [58, 47, 63, 35] r)) p.1 p.2 else none
def parseI (l : List Int) : Option UL := (schemeI (trimI l)).bind fun p => hostI p.1 p.2
def joinI (base : UL) (l : List Int) : Option UL :=
  if begI [47, 47] (trimI l) then parseI (base.sch ++ [58] ++ trimI l) else if begI [47] (trimI l) then parseI (originI base ++ trimI l) else parseI (trimI l)
def secureI (u : UL) : Bool := decide (u.sch = httpsI) || decide (u.host = [108, 111, 99, 97, 108, 104, 111, 115, 116])
end Go.Proofs.YtfgaikacijdodaaDoor
/-
  A range over a string, its iterator in a block of the call's own; a string's conversion of a rune. No program is named here.
-/
namespace Go.Proofs.YtfgaikacijdodaaDoor
set_option linter.unusedVariables false
set_option linter.unusedSimpArgs false
set_option maxRecDepth 20000
open Go.RowKit

section
variable {P : Program} {w0 w : World} {L : Blks} {ops : Array Oper} {rest : List Oper} {op : Oper} {a : Act} {Q : Exit → Act → World → Prop}
theorem wl_rangeS (hgd : op.guard = none) (t : TypeId) (m : Operand) (ho : op.op = .range t m) (ht : P.underlying t = some .string) (hO : Own w0 w L) (s : ByteArray) (ha : a.eval m = .string s)
    (h : ∀ r w', Own w0 w' ((r, .stringIter s 0) :: L) → wpList P ops Q rest (a.put op.dst (.pointer (some ⟨r, 0, none⟩))) w') : wpList P ops Q (op :: rest) a w :=
  wl_new hgd hO (.stringIter s 0) (fun r => .pointer (some ⟨r, 0, none⟩)) (by simp [execOp, ho, ha, run_range_string w t s ht, World.iter]) h
theorem at_set {w : World} {b : Nat} {o o' : Obj} (h : w.heap[b]? = some o) : (w.heap.setIfInBounds b o')[b]? = some o' := by
  simp [Array.getElem?_setIfInBounds, lt_of_heap h]
theorem run_nextS (w : World) (r : Nat) (s : ByteArray) (pos : Nat) (ty : TypeId) (hr : w.heap[r]? = some (.stringIter s pos)) (h : pos < s.size) :
    (Instr.next (.pointer (some ⟨r, 0, none⟩)) true ty).run P w = .ok (.tuple #[.bool true, .int .i64 pos, .int .i32 (Utf8.decode s pos).1]) { w with heap := w.heap.setIfInBounds r (.stringIter s (pos + (Utf8.decode s pos).2)) } := by
  simp only [Instr.next, getObj, setObj, Sem.run_bind, Sem.run, hr, Result.andThen, h, if_true]
  simp [goInt]
theorem run_nextS_end (w : World) (r : Nat) (s : ByteArray) (pos : Nat) (ty : TypeId) (hr : w.heap[r]? = some (.stringIter s pos)) (h : ¬ pos < s.size) :
    (Instr.next (.pointer (some ⟨r, 0, none⟩)) true ty).run P w = .ok (.tuple #[.bool false]) w := by
  simp [Instr.next, getObj, Sem.run, hr, h]
/-- The next rune, by the bytes that are left. -/
theorem wl_nextS (hgd : op.guard = none) (it : Operand) (ho : op.op = .next it true) (hO : Own w0 w L) (i r : Nat) (s : ByteArray) (pos : Nat) (hi : L[i]? = some (r, Obj.stringIter s pos)) (hp : pos < s.size)
    (ha : a.eval it = .pointer (some ⟨r, 0, none⟩))
    (h : ∀ w', Own w0 w' (L.set i (r, .stringIter s (pos + (decI ((sb s).drop pos)).2))) → wpList P ops Q rest (a.put op.dst (.tuple #[.bool true, .int .i64 pos, .int .i32 ((decI ((sb s).drop pos)).1 : Nat)])) w') : wpList P ops Q (op :: rest) a w := by
  have hr := hO.heap (List.mem_of_getElem? hi)
  refine wpList_plain hgd fun K hK => ?_
  have hrun := run_nextS (P := P) w r s pos op.type hr hp
  rw [decode_sb] at hrun
  unfold Oper.wp
  simp [execOp, ho, ha, hrun, Result.andThen]
  refine hK _ _ (h _ (hO.updAt i hi ⟨rfl, rfl, rfl, by simp, fun j _ hj => ?_⟩ (at_set hr)))
  have hne : ¬ r = j := fun e => hj (by rw [e])
  simp [Array.getElem?_setIfInBounds, hne]
/-- Behind the last one. -/
theorem wl_nextS_end (hgd : op.guard = none) (it : Operand) (ho : op.op = .next it true) (hO : Own w0 w L) (i r : Nat) (s : ByteArray) (pos : Nat) (hi : L[i]? = some (r, Obj.stringIter s pos)) (hp : ¬ pos < s.size)
    (ha : a.eval it = .pointer (some ⟨r, 0, none⟩))
    (h : wpList P ops Q rest (a.put op.dst (.tuple #[.bool false])) w) : wpList P ops Q (op :: rest) a w :=
  wl_val hgd _ (by simp [execOp, ho, ha, run_nextS_end (P := P) w r s pos op.type (hO.heap (List.mem_of_getElem? hi)) hp]) h
end
/-! ### strings as their bytes -/
theorem sb_append (s t : ByteArray) : sb (s ++ t) = sb s ++ sb t := by
  unfold sb
  rw [← List.map_append]
  first | rfl | (congr 1)
theorem sb_extract (s : ByteArray) (i j : Nat) : sb (s.extract i j) = ((sb s).take j).drop i := by
  unfold sb
  rw [ByteArray.data_extract, Array.toList_extract, List.extract_eq_take_drop]
  rw [List.map_take, List.map_drop, ← List.map_take, ← List.map_drop, ← List.map_take, ← List.map_drop]
  congr 1
  rw [List.drop_take]
theorem sb_empty : sb ⟨#[]⟩ = [] := rfl
theorem str_nil : strOfNums [] = ⟨#[]⟩ := rfl
theorem str_eq_iff {s t : ByteArray} : s = t ↔ sb s = sb t := ⟨fun h => by rw [h], sb_inj⟩
/-- Two strings alike, as the walk compares them. -/
theorem beq_sb (s t : ByteArray) : (s.toList == t.toList) = decide (sb s = sb t) := by
  rw [← str_sb s, ← str_sb t, sb_str (byt_sb s), sb_str (byt_sb t)]
  exact beq_str (byt_sb s) (byt_sb t)
end Go.Proofs.YtfgaikacijdodaaDoor
/-
  Bytes: append to rows of bytes of the call's own; parts of a block as bytes.
-/
namespace Go.Proofs.YtfgaikacijdodaaDoor
set_option linter.unusedVariables false
set_option linter.unusedSimpArgs false
set_option maxRecDepth 20000
open Go.RowKit

theorem isBytes_nil : IsBytes (.slice none 0 0) [] [] := ⟨rfl, .inl ⟨rfl, rfl, rfl⟩⟩
theorem rd_blk {w0 : World} {R : Blks} {g : Nat} {xs : List Int} {sp : List Value} {t : TypeId} (hm : (g, Obj.cells (List.toArray (bv xs ++ sp)) t) ∈ R) (lo m c : Nat) (hl : lo + m ≤ xs.length) (hc : m ≤ c) : Rd w0 R (.slice (some ⟨g, lo, none⟩) m c) ((xs.drop lo).take m) := by
  intro w' L' hO
  refine ⟨_, _, _, rfl, by simp; omega, hc, fun _ => ⟨_, rfl, fun j x hx => ?_⟩⟩
  have hj : j < m := by have := (List.getElem?_eq_some_iff.1 hx).1; simp at this; omega
  rw [Addr.add_mid, hO.cell (List.mem_append_right _ hm) _]
  rw [List.getElem?_take_of_lt hj, List.getElem?_drop] at hx
  simp only [List.getElem?_toArray]
  rw [List.getElem?_append_left (by simp; omega)]
  simp [bv, hx]
theorem IsBytes.blkn {v : Value} {xs : List Int} {L : Blks} (h : IsBytes v xs L) (n : Nat) (hx : xs.length = n) (h0 : 0 < n) :
    ∃ g cap sp, v = .slice (some ⟨g, 0, none⟩) n cap ∧ L = [(g, .cells (List.toArray (bv xs ++ sp)) 5)] ∧ n ≤ cap := by
  subst hx
  rcases h.2 with ⟨_, h0', _⟩ | ⟨g, cap, sp, rfl, rfl, hl, hn, hm⟩
  · omega
  · exact ⟨g, cap, sp, rfl, rfl, hn⟩
section
variable {w0 w : World} {L R : Blks} {ops : Array Oper} {rest : List Oper} {op : Oper} {a : Act} {Q : Exit → Act → World → Prop}
theorem wl_appendB (hgd : op.guard = none) (s x : Operand)
    (ho : op.op = .call { callee := .builtin .append, args := #[s, x], argTypes := #[64, 64] })
    (v : Value) (xs : List Int) (hs : a.eval s = v) (hr : IsBytes v xs L) (hO : Own w0 w (L ++ R))
    (xv : Value) (ys : List Int) (hx : a.eval x = xv) (hV : Bs w xv ys) (h63 : xs.length + ys.length ≤ 1073741824)
    (h : ∀ v' w' L', IsBytes v' (xs ++ ys) L' → Own w0 w' (L' ++ R) → wpList Tryd.prog ops Q rest (a.put op.dst v') w') : wpList Tryd.prog ops Q (op :: rest) a w := by
  refine wl_appendV hgd s x _ ho _ _ 1 Tryd.underlying64 byte_info (by rfl) v xs.length (bv xs) hs hr hO xv (bv ys) hx hV.vs (one_bv _) (by simp only [length_bv, maxLen]; omega) (by simp only [length_bv]; omega) ?_
  intro v' w' L' hr' hO'
  refine h v' w' L' ?_ hO'
  unfold IsBytes
  rw [List.length_append, bv_append]
  simpa using hr'
theorem wl_appendZB (hgd : op.guard = none) (s x : Operand)
    (ho : op.op = .call { callee := .builtin .append, args := #[s, x], argTypes := #[64, 3] })
    (v : Value) (xs : List Int) (hs : a.eval s = v) (hr : IsBytes v xs L) (hO : Own w0 w (L ++ R))
    (m : Nat) (hx : a.eval x = .int .i64 (m : Int)) (h63 : xs.length + m ≤ 1073741824)
    (h : ∀ v' w' L', IsBytes v' (xs ++ List.replicate m 0) L' → Own w0 w' (L' ++ R) → wpList Tryd.prog ops Q rest (a.put op.dst v') w') : wpList Tryd.prog ops Q (op :: rest) a w := by
  refine wl_appendZ hgd s x _ _ ho _ .i64 _ 1 Tryd.underlying64 Tryd.underlying3 byte_info (by rfl) (by rfl) v xs.length (bv xs) hs hr hO m hx (by simp only [maxLen]; omega) (by omega) ?_
  intro v' w' L' hr' hO'
  refine h v' w' L' ?_ hO'
  unfold IsBytes
  rw [List.length_append, bv_append, List.length_replicate]
  simpa [bv] using hr'
end
end Go.Proofs.YtfgaikacijdodaaDoor
