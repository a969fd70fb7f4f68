/-
  Texts that the laws stand on: Head2, Rp1, Head3, Tree, Tree3, Ask2, Ask3.
-/
import Derived.Test.YtlcolabblpikjaaDoorM4
import Derived.Test.YtlcolabblpikjaaDoorM3
import Derived.Deep.QuietTactic
import Derived.BigQuiet
import Derived.Test.YtlcolabblpikjaaDoorM2
import Derived.Test.YtlcolabblpikjaaDoorM1
import Derived.Deep.DeepCutAuto
import Derived.Deep.CutBlock

/-
  Package head: Forbidden; headers in a row: Get.
-/
namespace Go.Proofs.YtlcolabblpikjaaDoor
set_option linter.unusedVariables false
set_option linter.unusedSimpArgs false
set_option maxRecDepth 20000
open Go.RowKit

/-- A string held against a constant, as the walk compares them. -/
theorem beq_lit8 (o : ByteArray) (l : List UInt8) (m : List Int) (h : l.map (fun b => (b.toNat : Int)) = m) : (o.toList == l) = decide (sb o = m) := by
  have h1 := beq_sb o ⟨l.toArray⟩
  have h2 : (⟨l.toArray⟩ : ByteArray).toList = l := by rw [ByteArray.toList_eq]
  have h3 : sb ⟨l.toArray⟩ = m := by rw [← h]; rfl
  rw [h2, h3] at h1
  exact h1

/-! ### headers in a row -/
abbrev HBL := List (ByteArray × ByteArray)
def hv2 (h : ByteArray × ByteArray) : List Value := [.string h.1, .string h.2]
def hv (hs : HBL) : List Value := hs.flatMap hv2
theorem length_hv : ∀ hs : HBL, (hv hs).length = hs.length * 2
  | [] => rfl
  | h :: hs => by rw [hv, List.flatMap_cons, List.length_append, ← hv, length_hv hs, hv2]; simp; omega
theorem one_hv2 (h : ByteArray × ByteArray) : ∀ v ∈ hv2 h, v.oneCell' = true := by
  intro v hv; simp only [hv2, List.mem_cons, List.not_mem_nil, or_false] at hv; rcases hv with rfl | rfl <;> rfl
theorem one_hv (hs : HBL) : ∀ v ∈ hv hs, v.oneCell' = true := by
  intro v hm; rw [hv, List.mem_flatMap] at hm; obtain ⟨h, _, hm⟩ := hm; exact one_hv2 h v hm
theorem hv_append (a b : HBL) : hv (a ++ b) = hv a ++ hv b := by unfold hv; rw [List.flatMap_append]
theorem hv_at : ∀ (hs : HBL) (k : Nat) (h : ByteArray × ByteArray), hs[k]? = some h → ∀ j v, (hv2 h)[j]? = some v → (hv hs)[k * 2 + j]? = some v
  | [], k, h, e, _, _, _ => by cases e
  | x :: hs, 0, h, e, j, v, hj => by
    simp only [List.getElem?_cons_zero, Option.some.injEq] at e
    subst e
    rw [hv, List.flatMap_cons]
    have : 0 * 2 + j = j := by omega
    rw [this, List.getElem?_append_left (List.getElem?_eq_some_iff.1 hj).1]
    exact hj
  | x :: hs, k + 1, h, e, j, v, hj => by
    rw [List.getElem?_cons_succ] at e
    rw [hv, List.flatMap_cons, List.getElem?_append_right (by simp [hv2]; omega)]
    have : (k + 1) * 2 + j - (hv2 x).length = k * 2 + j := by simp [hv2]; omega
    rw [this]
    exact hv_at hs k h e j v hj
/-- The slice value v holds the headers hs, in world w (whoever owns them). -/
def Hs (w : World) (v : Value) (hs : HBL) : Prop :=
  ∃ A n c, v = .slice A n c ∧ hs.length = n ∧ n ≤ c ∧ (0 < n → ∃ g, A = some ⟨g, 0, none⟩ ∧ ∀ j h, hs[j]? = some h → w.rangeAt g (j * 2) (hv2 h))
def HRd (w0 : World) (R : Blks) (v : Value) (hs : HBL) : Prop := ∀ w' L', Own w0 w' (L' ++ R) → Hs w' v hs
theorem HRd.grow {w0 : World} {R R' : Blks} {v : Value} {xs : HBL} (h : HRd w0 R v xs) (hs : R.Sublist R') : HRd w0 R' v xs := fun w' L' hO => h w' [] (hO.right.sub hs)
theorem HRd.at_ {w0 w' : World} {R L' : Blks} {g n c : Nat} {xs : HBL} (h : HRd w0 R (.slice (some ⟨g, 0, none⟩) n c) xs) (hO : Own w0 w' (L' ++ R)) {j : Nat} {x : ByteArray × ByteArray} (hx : xs[j]? = some x) : w'.rangeAt g (j * 2) (hv2 x) := by
  obtain ⟨A, n', c', e, hn, _, hA⟩ := h w' L' hO
  cases e
  obtain ⟨g', e, hc⟩ := hA (by have := (List.getElem?_eq_some_iff.1 hx).1; omega)
  cases e
  exact hc j x hx
theorem hrd_nil {w0 : World} {R : Blks} : HRd w0 R (.slice none 0 0) [] := fun w' L' hO => ⟨_, _, _, rfl, rfl, Nat.le_refl _, fun h => absurd h (by omega)⟩
def matchI (name : List Int) (h : ByteArray × ByteArray) : Bool := decide (lowL (sb h.1) = lowL name)
def getI (name : List Int) (hs : HBL) : Option ByteArray := (hs.find? (matchI name)).map (·.2)
theorem getI_drop {name : List Int} {hs : HBL} {k : Nat} {h : ByteArray × ByteArray} (e : hs[k]? = some h) : getI name (hs.drop k) = if matchI name h then some h.2 else getI name (hs.drop (k + 1)) := by
  have hk := (List.getElem?_eq_some_iff.1 e)
  obtain ⟨hk, rfl⟩ := hk
  rw [List.drop_eq_getElem_cons hk]
  unfold getI
  rw [List.find?_cons]
  split <;> rename_i hm <;> simp [hm]
theorem head_size : (Tryd.prog.info? 23).map (·.size) = some 2 := by kernel_rfl
theorem head_info : (Tryd.prog.info? 23).map (fun i => (i.zero, i.size, i.bytes)) = some (some (.agg #[.string ⟨#[]⟩, .string ⟨#[]⟩]), 2, 32) := by kernel_rfl
theorem alloc_head (w : World) : (Instr.alloc 23 true (.tuple #[])).run Tryd.prog w = .ok (.pointer (some ⟨w.heap.size, 0, none⟩)) (w.alloc (.cells (hv2 (⟨#[]⟩, ⟨#[]⟩)).toArray 23)) := by kernel_rfl
/-- Headers in a block of the call's own. -/
def IsHeads (v : Value) (hs : HBL) (L : Blks) : Prop := IsRow 23 2 v hs.length (hv hs) L
theorem isHeads_nil : IsHeads (.slice none 0 0) [] [] := ⟨rfl, .inl ⟨rfl, rfl, rfl⟩⟩
theorem IsHeads.hrd {w0 : World} {R R' : Blks} {v : Value} {hs : HBL} (h : IsHeads v hs R) (hs' : R.Sublist R') : HRd w0 R' v hs := by
  intro w' L' hO
  have hO2 := hO.right.sub hs'
  rcases h.2 with ⟨rfl, h0, rfl⟩ | ⟨g, cap, sp, rfl, rfl, hl, hn, hm⟩
  · exact ⟨_, _, _, rfl, h0, Nat.le_refl _, fun h => absurd h (by omega)⟩
  · refine ⟨_, _, _, rfl, rfl, hn, fun _ => ⟨g, rfl, fun j x hx i v hv => ?_⟩⟩
    rw [hO2.cell (.head _)]
    simp only [List.getElem?_toArray]
    have := hv_at hs j x hx i v hv
    rw [List.getElem?_append_left (List.getElem?_eq_some_iff.1 this).1]
    exact this
end Go.Proofs.YtlcolabblpikjaaDoor
/-
  The document's own answers, in plain Go: line, blanks, names, values.
-/
namespace Go.Proofs.YtlcolabblpikjaaDoor
set_option linter.unusedVariables false
set_option linter.unusedSimpArgs false
set_option maxRecDepth 20000
open Go.RowKit

/-! ### lines -/
def lineV (o : Option (List Int × List Int)) : Value := match o with
  | some (p, r) => .tuple #[.string (strOfNums p), .string (strOfNums r), .bool true]
  | none => .tuple #[.string ⟨#[]⟩, .string ⟨#[]⟩, .bool false]
theorem lineI_at {l : List Int} {i : Nat} (h : i + 1 < l.length) : lineI (l.drop i) = if l.getD i 0 = 13 ∧ l.getD (i + 1) 0 = 10 then some ([], l.drop (i + 2)) else (lineI (l.drop (i + 1))).map fun p => (l.getD i 0 :: p.1, p.2) := by
  have e0 : l.getD i 0 = l[i] := by rw [List.getD_eq_getElem?_getD, List.getElem?_eq_getElem (by omega), Option.getD_some]
  have e1 : l.getD (i + 1) 0 = l[i + 1] := by rw [List.getD_eq_getElem?_getD, List.getElem?_eq_getElem h, Option.getD_some]
  rw [List.drop_eq_getElem_cons (show i < l.length by omega), lineI_cons, e0, e1]
  have e2 : (l.drop (i + 1)).head? = some l[i + 1] := by rw [List.drop_eq_getElem_cons h]; rfl
  have e3 : (l.drop (i + 1)).tail = l.drop (i + 2) := by rw [List.drop_eq_getElem_cons h]; rfl
  rw [e2, e3]
  simp only [Option.some.injEq]
theorem lineI_last {l : List Int} {i : Nat} (h : l.length ≤ i + 1) : lineI (l.drop i) = none := by
  have hl : (l.drop i).length ≤ 1 := by simp; omega
  match hd : l.drop i, hl with
  | [], _ => rfl
  | [_], _ => rfl
  | _ :: _ :: _, hl => simp at hl
def LineTo (l : List Int) (i : Nat) : Prop := lineI l = (lineI (l.drop i)).map fun p => (l.take i ++ p.1, p.2)
theorem lineTo_zero (l : List Int) : LineTo l 0 := by
  unfold LineTo
  rw [List.drop_zero]
  cases lineI l with
  | none => rfl
  | some p => simp
theorem LineTo.next {l : List Int} {i : Nat} (h : LineTo l i) (hi : i + 1 < l.length) (hn : ¬ (l.getD i 0 = 13 ∧ l.getD (i + 1) 0 = 10)) : LineTo l (i + 1) := by
  unfold LineTo at *
  rw [h, lineI_at hi, if_neg hn, Option.map_map]
  have e0 : l.take (i + 1) = l.take i ++ [l.getD i 0] := by
    rw [List.take_succ_eq_append_getElem (by omega), List.getD_eq_getElem?_getD, List.getElem?_eq_getElem (by omega), Option.getD_some]
  congr 1
  funext p
  simp [e0]
theorem LineTo.hit {l : List Int} {i : Nat} (h : LineTo l i) (hi : i + 1 < l.length) (h1 : l.getD i 0 = 13) (h2 : l.getD (i + 1) 0 = 10) : lineI l = some (l.take i, l.drop (i + 2)) := by
  unfold LineTo at h
  rw [h, lineI_at hi, if_pos ⟨h1, h2⟩]
  simp
theorem LineTo.none {l : List Int} {i : Nat} (h : LineTo l i) (hi : l.length ≤ i + 1) : lineI l = none := by
  unfold LineTo at h
  rw [h, lineI_last hi]
  rfl
theorem ext_str (s : ByteArray) (i j : Nat) : s.extract i j = strOfNums (win (sb s) i j) := by rw [← sb_win, str_sb]
theorem win_from (l : List Int) (i : Nat) : win l 0 i = l.take i := by unfold win; rw [List.drop_zero]
theorem win_rest (l : List Int) (i n : Nat) (h : n = l.length) : win l i n = l.drop i := by unfold win; rw [h, List.take_length]
/-! ### blanks -/
theorem blanksI_cons {x : Int} {l : List Int} (h : x = 32) : blanksI (x :: l) = blanksI l := by subst h; exact blanksI_front l
/-! ### names, values -/
end Go.Proofs.YtlcolabblpikjaaDoor
/-
  Headers appended to a row of the call's own, one by one.
-/
namespace Go.Proofs.YtlcolabblpikjaaDoor
set_option linter.unusedVariables false
set_option linter.unusedSimpArgs false
set_option maxRecDepth 20000
open Go.RowKit

theorem build_head (w : World) (p q : ByteArray) : (Instr.build 23 #[(0, .string p), (1, .string q)]).run Tryd.prog w = .ok (.agg #[.string p, .string q]) w := by kernel_rfl
theorem build_heads1 (w : World) (p q : ByteArray) : (Instr.buildSlice 24 1 #[(0, .agg #[.string p, .string q])]).run Tryd.prog w = .ok (.slice (some ⟨w.heap.size, 0, none⟩) 1 1) (w.alloc (.cells (hv2 (p, q)).toArray 23)) := by kernel_rfl
theorem build_byte1 (w : World) (y : Int) : (Instr.buildSlice 50 1 #[(0, .int .u8 y)]).run Tryd.prog w = .ok (.slice (some ⟨w.heap.size, 0, none⟩) 1 1) (w.alloc (.cells (bv [y]).toArray 5)) := by kernel_rfl
def toB (h : List Int × List Int) : ByteArray × ByteArray := (strOfNums h.1, strOfNums h.2)
theorem IsHeads.one {v : Value} {hs : HBL} {L : Blks} (h : IsHeads v hs L) : v.oneCell' = true := by obtain ⟨A, c, rfl⟩ := IsRow.val h; rfl
theorem Own.sink2 {w0 w : World} {L R : Blks} {x y : Nat × Obj} (h : Own w0 w (x :: y :: (L ++ R))) : Own w0 w (L ++ (x :: y :: R)) :=
  h.perm ((List.Perm.cons x List.perm_middle.symm).trans List.perm_middle.symm)
theorem Own.rise2 {w0 w : World} {L R : Blks} {x y : Nat × Obj} (h : Own w0 w (L ++ (x :: y :: R))) : Own w0 w (x :: y :: (L ++ R)) :=
  h.perm (List.perm_middle.trans (List.Perm.cons x List.perm_middle))
theorem Own.sink3 {w0 w : World} {L R : Blks} {x y z : Nat × Obj} (h : Own w0 w (x :: y :: z :: (L ++ R))) : Own w0 w (L ++ (x :: y :: z :: R)) :=
  h.perm ((List.Perm.cons x ((List.Perm.cons y List.perm_middle.symm).trans List.perm_middle.symm)).trans List.perm_middle.symm)
theorem strs_size {l : List Int} {n : Nat} (h : l.length ≤ n) : (strOfNums l).size ≤ n := by rw [strOfNums_size]; exact h
theorem str_lit (l : List Int) (hB : Byt l) (k : List UInt8) (m : List Int) (h : k.map (fun b => (b.toNat : Int)) = m) : ((strOfNums l).toList == k) = decide (l = m) := by
  rw [beq_lit8 _ _ m h, sb_str hB]
/-- All but the last, in the same blocks. -/
theorem IsHeads.cut {v : Value} {hs : HBL} {L : Blks} (h : IsHeads v hs L) (h0 : hs ≠ []) : ∃ g c, v = .slice (some ⟨g, 0, none⟩) hs.length c ∧ hs.length ≤ c ∧ c ≤ maxLen ∧ IsHeads (.slice (some ⟨g, 0, none⟩) (hs.length - 1) c) hs.dropLast L := by
  have hp : 0 < hs.length := List.length_pos_iff.2 h0
  rcases h.2 with ⟨_, hn, _⟩ | ⟨g, cap, sp, rfl, rfl, hl, hn, hm⟩
  · omega
  · refine ⟨g, cap, rfl, hn, hm, ?_, .inr ⟨g, cap, hv2 (hs.getLast h0) ++ sp, by simp, ?_, ?_, by simp; omega, hm⟩⟩
    · rw [length_hv]
    · have e : hv hs.dropLast ++ (hv2 (hs.getLast h0) ++ sp) = hv hs ++ sp := by
        rw [← List.append_assoc]
        congr 1
        conv => rhs; rw [← List.dropLast_concat_getLast h0]
        rw [hv_append]
        simp [hv]
      rw [e]
    · have e : hv hs.dropLast ++ (hv2 (hs.getLast h0) ++ sp) = hv hs ++ sp := by
        rw [← List.append_assoc]
        congr 1
        conv => rhs; rw [← List.dropLast_concat_getLast h0]
        rw [hv_append]
        simp [hv]
      rw [e]; exact hl
section
variable {w0 w : World} {L R : Blks} {ops : Array Oper} {rest : List Oper} {op : Oper} {a : Act} {Q : Exit → Act → World → Prop}
theorem wl_appendH1 (hgd : op.guard = none) (s x : Operand)
    (ho : op.op = .call { callee := .builtin .append, args := #[s, x], argTypes := #[24, 24] })
    (v : Value) (hs : HBL) (hv' : a.eval s = v) (hr : IsHeads v hs L) (hO : Own w0 w (L ++ R))
    (g c : Nat) (h : ByteArray × ByteArray) (hx : a.eval x = .slice (some ⟨g, 0, none⟩) 1 c) (hm : (g, Obj.cells (hv2 h).toArray 23) ∈ R) (h63 : hs.length + 1 ≤ 1073741824)
    (k : ∀ v' w' L', IsHeads v' (hs ++ [h]) L' → Own w0 w' (L' ++ R) → wpList Tryd.prog ops Q rest (a.put op.dst v') w') : wpList Tryd.prog ops Q (op :: rest) a w := by
  refine wl_append hgd s x _ ho _ _ 2 32 Tryd.underlying24 head_info (by rfl) (by omega) v hs.length (hv hs) hv' hr hO ⟨g, 0, none⟩ 1 c (hv2 h) hx (by rfl) (fun j u hu => ?_) (one_hv2 h) (by simp only [maxLen]; omega) (by omega) ?_
  · rw [addr_add_zero, hO.cell (List.mem_append_right _ hm) j]
    simpa using hu
  · intro v' w' L' hr' hO' _
    refine k v' w' L' ?_ hO'
    unfold IsHeads
    rw [List.length_append, hv_append]
    simpa [hv] using hr'
end
end Go.Proofs.YtlcolabblpikjaaDoor
/-
  A region that draws its order, in which an operation that acts floats beside others that act: both orders, branch by branch. No program is named here.
-/
namespace Go.Proofs.YtlcolabblpikjaaDoor
set_option linter.unusedVariables false
set_option linter.unusedSimpArgs false
set_option maxRecDepth 20000
open Go.RowKit

/-- How the head is walked: q: a quiet one, taken first; one: the only one that is ready; two: either of two. -/
inductive Ord where
  | done
  | q (i : Nat) (r : Ord)
  | one (i : Nat) (r : Ord)
  | two (i : Nat) (r : Ord) (j : Nat) (s : Ord)
def Ord.len : Ord → Nat
  | .done => 0
  | .q _ r => r.len + 1
  | .one _ r => r.len + 1
  | .two _ r _ _ => r.len + 1
def treeChk (md : Region.Mode) (ops : Array Oper) (nh : Nat) : Ord → Array Bool → Bool
  | .done, listed => headDone nh listed && Region.seqB md ops (ops.size - nh) nh listed
  | .q i r, listed => decide (i < nh) && (Region.ready md ops listed).contains i && Region.free md ops listed i && treeChk md ops nh r (listed.setIfInBounds i true)
  | .one i r, listed => decide (i < nh) && decide (Region.ready md ops listed = [i]) && treeChk md ops nh r (listed.setIfInBounds i true)
  | .two i r j s, listed => decide (i < nh) && decide (j < nh) && decide (Region.ready md ops listed = [i, j]) && decide (r.len = s.len) && treeChk md ops nh r (listed.setIfInBounds i true) && treeChk md ops nh s (listed.setIfInBounds j true)
section
variable {P : Program} {ops : Array Oper} {Q : Exit → Act → World → Prop} {md : Region.Mode} {S : World → Prop} {nh : Nat}
/-- The head branch by branch; T behind it. -/
def wpT (P : Program) (ops : Array Oper) (l : List Oper) (Q : Exit → Act → World → Prop) (S : World → Prop) (T : Act → World → Prop) : Ord → Act → World → Prop
  | .done, a, w => T a w
  | .q i r, a, w => ∃ v, YieldsIf P ops S (pick l i) v a ∧ wpT P ops l Q S T r (a.put (pick l i).dst v) w
  | .one i r, a, w => wpList P ops (LinPost Q S (wpT P ops l Q S T r)) [pick l i] a w
  | .two i r j s, a, w => wpList P ops (LinPost Q S (wpT P ops l Q S T r)) [pick l i] a w ∧ wpList P ops (LinPost Q S (wpT P ops l Q S T s)) [pick l j] a w

theorem wpOp_of_list {X : Act → World → Prop} {Y : Act → World → Prop} {j : Nat} {oi : Oper} {a : Act} {w : World} (hoi : ops[j]? = some oi) (fin : ∀ a' w', S w' ∧ X a' w' → Y a' w')
    (h : wpList P ops (LinPost Q S X) [oi] a w) : wpOp P ops Q j Y a w := by
  unfold wpOp
  simp only [hoi]
  simp only [wpList] at h
  split
  · rename_i hw
    rw [if_pos hw] at h
    rcases h with h | ⟨h1, h2⟩
    · refine .inl ?_
      unfold Oper.wp at *
      generalize (execOp a.eval oi).run P w = rs at *
      cases rs with
      | ok n w' =>
        cases n <;> simp only [Oper.upon] at h ⊢
        case value u => exact fin _ _ h
        case skip => exact fin _ _ h
        case defer d => exact fin _ _ h
        case enter f args =>
          refine Calls.mono h fun e w'' he => ?_
          cases e with
          | returned u => exact fin _ _ he
          | panicked c => exact he
          | outgrown => exact he
        case row row args => exact Rows.mono h fun u w'' he => fin _ _ he
      | halt x w' => cases x <;> simp only [Oper.upon] at h ⊢; exact h
    · exact .inr ⟨h1, h2⟩
  · rename_i hw
    rw [if_neg hw] at h
    exact fin _ _ h
theorem headDone_no {listed : Array Bool} {i : Nat} (hin : i < nh) (hun : listed.getD i true = false) : headDone nh listed = false := by
  cases hd : headDone nh listed with
  | false => rfl
  | true =>
    have := List.all_eq_true.1 hd i (List.mem_range.2 hin)
    rw [getD_both hun] at this
    cases this
theorem wpHL_of_tree {l : List Oper} (hl : ops = l.toArray) (hsel : Region.noSelect ops = true) (ht : tailB md ops nh = true) (hQ : ∀ c a d v w, Q (.panic c) (Act.put a d v) w → Q (.panic c) a w) (tl : List Oper) (htl : ∀ j, tl[j]? = ops[nh + j]?) (htn : tl.length = ops.size - nh) :
    ∀ (o : Ord) (listed : Array Bool) (a : Act) (w : World), Closed md ops listed → treeChk md ops nh o listed = true → S w →
      wpT P ops l Q S (fun a w => wpList P ops Q tl a w) o a w → wpHL P md ops Q S nh (o.len + (ops.size - nh)) listed a w
  | .done, listed, a, w, hcl, hB, hS, h => by
    simp only [treeChk, Bool.and_eq_true] at hB
    have := wpAny_of_seq (P := P) (md := md) (ops := ops) (Q' := Q) tl nh listed a w htl (by rw [htn]; exact hB.2) h
    rw [htn] at this
    simp only [Ord.len, Nat.zero_add]
    cases hn : ops.size - nh with
    | zero => rw [hn] at this; exact ⟨hB.1, this⟩
    | succ n => rw [hn] at this; unfold wpHL; rw [if_pos hB.1]; exact this
  | .q i r, listed, a, w, hcl, hB, hS, h => by
    simp only [treeChk, Bool.and_eq_true, decide_eq_true_eq] at hB
    obtain ⟨⟨⟨hin, hr⟩, hf⟩, hrest⟩ := hB
    have hr' : i ∈ Region.ready md ops listed := by simpa using hr
    obtain ⟨_, oi, hoi, _⟩ := mem_ready.1 hr'
    obtain ⟨v, hy, h⟩ := h
    have hlt : i < ops.size := (Array.getElem?_eq_some_iff.1 hoi).1
    have e : pick l i = oi := by rw [pick_eq, ← hl]; simp [getElem!_pos, hlt, (Array.getElem?_eq_some_iff.1 hoi).2]
    simp only [e] at hy h
    have hfin := wpHL_of_tree hl hsel ht hQ tl htl htn r _ _ w (hcl.set hr') hrest hS h
    have := wpHL_first (Q := Q) (S := S) hoi hin hsel ht (fun c a w => hQ c a _ _ w) _ listed a w hcl (Region.free_spec hoi hf) hr' hy hS hfin
    rw [show (Ord.q i r).len + (ops.size - nh) = r.len + (ops.size - nh) + 1 by simp [Ord.len]; omega]
    exact this
  | .one i r, listed, a, w, hcl, hB, hS, h => by
    simp only [treeChk, Bool.and_eq_true, decide_eq_true_eq] at hB
    obtain ⟨⟨hin, hr⟩, hrest⟩ := hB
    have hr' : i ∈ Region.ready md ops listed := by rw [hr]; simp
    obtain ⟨hun, oi, hoi, _⟩ := mem_ready.1 hr'
    have hlt : i < ops.size := (Array.getElem?_eq_some_iff.1 hoi).1
    have e : pick l i = oi := by rw [pick_eq, ← hl]; simp [getElem!_pos, hlt, (Array.getElem?_eq_some_iff.1 hoi).2]
    unfold wpT at h
    rw [e] at h
    rw [show (Ord.one i r).len + (ops.size - nh) = r.len + (ops.size - nh) + 1 by simp [Ord.len]; omega]
    unfold wpHL
    rw [if_neg (by rw [headDone_no hin hun]; simp), hr]
    refine ⟨by simp, fun j hj => ?_⟩
    obtain rfl : j = i := by simpa using hj
    exact wpOp_of_list hoi (fun a' w' h' => ⟨h'.1, wpHL_of_tree hl hsel ht hQ tl htl htn r _ _ w' (hcl.set hr') hrest h'.1 h'.2⟩) h
  | .two i r i2 s, listed, a, w, hcl, hB, hS, h => by
    simp only [treeChk, Bool.and_eq_true, decide_eq_true_eq] at hB
    obtain ⟨⟨⟨⟨⟨hin, hin2⟩, hr⟩, hls⟩, hrest⟩, hrest2⟩ := hB
    have hr' : i ∈ Region.ready md ops listed := by rw [hr]; simp
    have hr2 : i2 ∈ Region.ready md ops listed := by rw [hr]; simp
    obtain ⟨hun, oi, hoi, _⟩ := mem_ready.1 hr'
    obtain ⟨hun2, oj, hoj, _⟩ := mem_ready.1 hr2
    have hlt : i < ops.size := (Array.getElem?_eq_some_iff.1 hoi).1
    have hlt2 : i2 < ops.size := (Array.getElem?_eq_some_iff.1 hoj).1
    have e : pick l i = oi := by rw [pick_eq, ← hl]; simp [getElem!_pos, hlt, (Array.getElem?_eq_some_iff.1 hoi).2]
    have e2 : pick l i2 = oj := by rw [pick_eq, ← hl]; simp [getElem!_pos, hlt2, (Array.getElem?_eq_some_iff.1 hoj).2]
    unfold wpT at h
    rw [e, e2] at h
    rw [show (Ord.two i r i2 s).len + (ops.size - nh) = r.len + (ops.size - nh) + 1 by simp [Ord.len]; omega]
    unfold wpHL
    rw [if_neg (by rw [headDone_no hin hun]; simp), hr]
    refine ⟨by simp, fun j hj => ?_⟩
    simp only [List.mem_cons, List.not_mem_nil, or_false] at hj
    rcases hj with rfl | rfl
    · exact wpOp_of_list hoi (fun a' w' h' => ⟨h'.1, wpHL_of_tree hl hsel ht hQ tl htl htn r _ _ w' (hcl.set hr') hrest h'.1 h'.2⟩) h.1
    · refine wpOp_of_list hoj (fun a' w' h' => ⟨h'.1, ?_⟩) h.2
      rw [hls]
      exact wpHL_of_tree hl hsel ht hQ tl htl htn s _ _ w' (hcl.set hr2) hrest2 h'.1 h'.2
/-- **A region that draws its order, branch by branch.** -/
theorem wp_region_tree {id : Nat} {a : Act} {w : World} {l : List Oper} (S : World → Prop) (nh : Nat) (order : Ord) (hm : P.follows .mixedOrders = true)
    (hB : (Region.noSelect l.toArray && tailB .any l.toArray nh && treeChk .any l.toArray nh order (Array.replicate l.toArray.size false) && decide (order.len + (l.toArray.size - nh) = l.toArray.size)) = true)
    (hQ : ∀ c a d v w, Q (.panic c) (Act.put a d v) w → Q (.panic c) a w) (hS : S w.drew)
    (h : wpT P l.toArray l Q S (fun a w => wpList P l.toArray Q (l.drop nh) a w) order a w.drew) : (Code.region id l.toArray true).wp P Q a w := by
  simp only [Bool.and_eq_true, decide_eq_true_eq] at hB
  obtain ⟨⟨⟨hsel, ht⟩, hc⟩, hlen⟩ := hB
  refine wp_region_any hm (wpAny_of_HL (S := S) (nh := nh) _ _ _ _ ?_)
  have := wpHL_of_tree (P := P) (Q := Q) (S := S) (l := l) rfl hsel ht hQ (l.drop nh) (fun j => by simp [List.getElem?_drop]) (by simp) order (Array.replicate l.toArray.size false) a w.drew
    ⟨by simp, fun j o _ hj => by rw [getD_replicate_false] at hj; cases hj⟩ hc hS h
  rw [hlen] at this
  exact this
section
variable {l : List Oper} {T : Act → World → Prop} {a : Act} {w : World}
theorem tr_done (h : T a w) : wpT P ops l Q S T .done a w := h
theorem tr_q {i : Nat} {r : Ord} (v : Value) (hgd : (pick l i).guard = none) (hrun : ∀ w', S w' → (execOp a.eval (pick l i)).run P w' = .ok (.value v) w') (h : wpT P ops l Q S T r (a.put (pick l i).dst v) w) : wpT P ops l Q S T (.q i r) a w :=
  ⟨v, .inl ⟨by simp [Region.wanted, hgd], hrun⟩, h⟩
theorem tr_one {i : Nat} {r : Ord} (h : wpList P ops (LinPost Q S (wpT P ops l Q S T r)) [pick l i] a w) : wpT P ops l Q S T (.one i r) a w := h
theorem tr_two {i j : Nat} {r s : Ord} (h : wpList P ops (LinPost Q S (wpT P ops l Q S T r)) [pick l i] a w) (h2 : wpList P ops (LinPost Q S (wpT P ops l Q S T s)) [pick l j] a w) : wpT P ops l Q S T (.two i r j s) a w := ⟨h, h2⟩
end
end
end Go.Proofs.YtlcolabblpikjaaDoor
/-
  A region that draws its order, branch by branch: up to three operations that act may float beside one another; a call that answers the same in every world that meets S, and leaves the world as it is, is taken first as a quiet operation is. No program is named here.
-/
namespace Go.Proofs.YtlcolabblpikjaaDoor
set_option linter.unusedVariables false
set_option linter.unusedSimpArgs false
set_option maxRecDepth 20000
open Go.RowKit

section
variable {P : Program} {ops : Array Oper} {Q : Exit → Act → World → Prop} {md : Region.Mode} {S : World → Prop} {nh : Nat}
/-- In state a the operation yields v, by itself or by a call that only answers, in every world that meets S. -/
def YieldsC (P : Program) (ops : Array Oper) (S : World → Prop) (o : Oper) (v : Value) (a : Act) : Prop :=
  YieldsIf P ops S o v a ∨ (Region.wanted o (yielded ops a.tmps) = true ∧ ∃ f args, ∀ w, S w → (execOp a.eval o).run P w = .ok (.enter f args) w ∧ Calls P f args w fun e w' => e = .returned v ∧ w = w')
theorem YieldsC.wpOp {i : Nat} {o : Oper} {v : Value} {a : Act} (hi : ops[i]? = some o) (hy : YieldsC P ops S o v a)
    {K : Act → World → Prop} {w : World} (hS : S w) (h : K (a.put o.dst v) w) : wpOp P ops Q i K a w := by
  rcases hy with hy | ⟨hw, f, args, hc⟩
  · exact YieldsIf.wpOp hi hy hS h
  · obtain ⟨hr, hc⟩ := hc w hS
    unfold Go.wpOp
    simp only [hi, hw, if_true, Oper.wp, hr, Oper.upon]
    refine .inl (hc.mono fun e w' he => ?_)
    obtain ⟨rfl, rfl⟩ := he
    exact h
theorem YieldsC.of_same {o : Oper} {v : Value} {a a' : Act} (hy : YieldsC P ops S o v a) (he : execOp a'.eval o = execOp a.eval o)
    (hw : Region.wanted o (yielded ops a'.tmps) = Region.wanted o (yielded ops a.tmps)) : YieldsC P ops S o v a' := by
  rcases hy with hy | hy
  · exact .inl (hy.of_same he hw)
  · refine .inr ?_
    rw [he, hw]
    exact hy
theorem wpOp_putC {j : Nat} {oi oj : Oper} {v : Value} (hj : ops[j]? = some oj) (hap : oi.apart ops oj = true)
    (hsi : ∀ cs b, oi.op ≠ .select cs b) (hsj : ∀ cs b, oj.op ≠ .select cs b)
    (hQ : ∀ c a w, Q (.panic c) (a.put oi.dst v) w → Q (.panic c) a w) {K : Act → World → Prop} {a : Act} {w : World}
    (hy : YieldsC P ops S oi v a) (h : wpOp P ops Q j K (a.put oi.dst v) w) :
    wpOp P ops Q j (fun a' w' => YieldsC P ops S oi v a' ∧ K (a'.put oi.dst v) w') a w := by
  obtain ⟨h1, h2, h3⟩ := Oper.apart_spec hap
  have keep : ∀ (a : Act), YieldsC P ops S oi v a → ∀ u, YieldsC P ops S oi v (a.put oj.dst u) := fun a hy u =>
    hy.of_same (execOp_put oi hsi a oj.dst u h3) (wanted_put oi a oj.dst u h3)
  have keepD : ∀ d, YieldsC P ops S oi v { a with defers := d :: a.defers } := fun d => hy.of_same rfl rfl
  unfold wpOp at *
  simp only [hj] at *
  rw [wanted_put oj a oi.dst v h1] at h
  split
  · rename_i hw
    simp only [hw, if_true] at h
    rcases h with h | ⟨hasks, hlets⟩
    case inr => exact .inr ⟨by unfold Oper.asks at *; rw [execOp_put oj hsj a oi.dst v h1] at hasks; exact hasks, hlets⟩
    refine .inl ?_
    unfold Oper.wp at *
    rw [execOp_put oj hsj a oi.dst v h1] at h
    generalize (execOp a.eval oj).run P w = r at *
    cases r with
    | ok n w' =>
      cases n <;> simp only [Oper.upon] at h ⊢
      case value u => exact ⟨keep a hy u, by rw [← Act.put_comm a v u h2]; exact h⟩
      case skip => exact ⟨keep a hy _, by rw [← Act.put_comm a v undef h2]; exact h⟩
      case defer d =>
        refine ⟨keep _ (keepD d) _, ?_⟩
        rw [← Act.put_comm _ v undef h2, ← Act.put_defers]
        exact h
      case enter f args =>
        refine Calls.mono h fun e w'' he => ?_
        cases e with
        | returned u => exact ⟨keep a hy u, by rw [← Act.put_comm a v u h2]; exact he⟩
        | panicked c => exact hQ _ _ _ he
        | outgrown => exact he
      case row row args => exact Rows.mono h fun u w'' he => ⟨keep a hy u, by rw [← Act.put_comm a v u h2]; exact he⟩
    | halt x w' =>
      cases x <;> simp only [Oper.upon] at h ⊢
      case panic u => exact hQ _ _ _ h
  · rename_i hw
    simp only [hw] at h
    exact ⟨keep a hy _, by rw [← Act.put_comm a v undef h2]; exact h⟩
theorem wpHL_firstC {i : Nat} {oi : Oper} {v : Value} (hi : ops[i]? = some oi) (hin : i < nh) (hsel : Region.noSelect ops = true) (ht : tailB md ops nh = true)
    (hQ : ∀ c a w, Q (.panic c) (a.put oi.dst v) w → Q (.panic c) a w) :
    ∀ (fuel : Nat) (listed : Array Bool) (a : Act) (w : World), Closed md ops listed →
      (∀ j oj, ops[j]? = some oj → j ≠ i → listed.getD j true = false → (∀ e ∈ oj.after, Region.binds md e = true → e.on ≠ i) → oi.apart ops oj = true) →
      i ∈ Region.ready md ops listed → YieldsC P ops S oi v a → S w →
      wpHL P md ops Q S nh fuel (listed.setIfInBounds i true) (a.put oi.dst v) w → wpHL P md ops Q S nh (fuel + 1) listed a w := by
  have hun : ∀ {listed : Array Bool} {j : Nat}, j < nh → listed.getD j true = false → headDone nh listed = false := by
    intro listed j hj hl
    exact headDone_no hj hl
  intro fuel
  induction fuel with
  | zero =>
    intro listed a w hcl _ hr hy hS H
    unfold wpHL
    rw [if_neg (by rw [hun hin (mem_ready.1 hr).1]; simp)]
    refine ⟨fun h => (by rw [h] at hr; cases hr), fun j hj => ?_⟩
    by_cases hji : j = i
    · subst hji; exact hy.wpOp hi hS ⟨hS, H⟩
    · have hjn := ready_head ht hcl hj (hun hin (mem_ready.1 hr).1)
      have := hun hjn (mem_ready.1 (ready_mono hj hji)).1
      have H1 := H.1
      rw [this] at H1
      cases H1
  | succ fuel ih =>
    intro listed a w hcl hfree hr hy hS H
    unfold wpHL
    have hnd := hun hin (mem_ready.1 hr).1
    rw [if_neg (by rw [hnd]; simp)]
    refine ⟨fun h => (by rw [h] at hr; cases hr), fun j hj => ?_⟩
    by_cases hji : j = i
    · subst hji; exact hy.wpOp hi hS ⟨hS, H⟩
    · have hjn := ready_head ht hcl hj hnd
      have hnd' := hun hjn (mem_ready.1 (ready_mono hj hji)).1
      unfold wpHL at H
      rw [if_neg (by rw [hnd']; simp)] at H
      have h1 := H.2 j (ready_mono hj hji)
      obtain ⟨hjun, oj, hoj, hall⟩ := mem_ready.1 hj
      have hnot : ∀ e ∈ oj.after, Region.binds md e = true → e.on ≠ i := fun e he hb heq => by
        have h1 := hall e he hb
        rw [heq, getD_both (mem_ready.1 hr).1] at h1
        cases h1
      have h2 := wpOp_putC hoj (hfree j oj hoj hji hjun hnot) (fun cs b => Region.noSelect_spec hsel i oi cs b hi) (fun cs b => Region.noSelect_spec hsel j oj cs b hoj) hQ hy h1
      have hfree' : ∀ k ok, ops[k]? = some ok → k ≠ i → (listed.setIfInBounds j true).getD k true = false →
          (∀ e ∈ ok.after, Region.binds md e = true → e.on ≠ i) → oi.apart ops ok = true := fun k ok hk hki hun' hno => by
        refine hfree k ok hk hki ?_ hno
        by_cases hjk : j = k
        · subst hjk; exact hjun
        · rw [getD_set_ne true hjk] at hun'; exact hun'
      refine wpOp_mono (fun a' w' h3 => ⟨h3.2.1, ih (listed.setIfInBounds j true) a' w' (hcl.set hj) hfree' (ready_mono hr (Ne.symm hji)) h3.1 h3.2.1 ?_⟩) h2
      rw [Array.setIfInBounds_comm _ _ hji]
      exact h3.2.2

/-- How the head is walked: q: a quiet one, taken first; one, two, three: whichever of those that are ready. -/
inductive Ord3 where
  | done
  | q (i : Nat) (r : Ord3)
  | one (i : Nat) (r : Ord3)
  | two (i : Nat) (r : Ord3) (j : Nat) (s : Ord3)
  | three (i : Nat) (r : Ord3) (j : Nat) (s : Ord3) (k : Nat) (t : Ord3)
def Ord3.len : Ord3 → Nat
  | .done => 0
  | .q _ r => r.len + 1
  | .one _ r => r.len + 1
  | .two _ r _ _ => r.len + 1
  | .three _ r _ _ _ _ => r.len + 1
/-- The quiet ones of a list, one behind the other. -/
def Ord3.qs : List Nat → Ord3 → Ord3
  | [], r => r
  | i :: l, r => .q i (Ord3.qs l r)
def tree3Chk (md : Region.Mode) (ops : Array Oper) (nh : Nat) : Ord3 → Array Bool → Bool
  | .done, listed => headDone nh listed && Region.seqB md ops (ops.size - nh) nh listed
  | .q i r, listed => decide (i < nh) && (Region.ready md ops listed).contains i && Region.free md ops listed i && tree3Chk md ops nh r (listed.setIfInBounds i true)
  | .one i r, listed => decide (i < nh) && decide (Region.ready md ops listed = [i]) && tree3Chk md ops nh r (listed.setIfInBounds i true)
  | .two i r j s, listed => decide (i < nh) && decide (j < nh) && decide (Region.ready md ops listed = [i, j]) && decide (r.len = s.len) && tree3Chk md ops nh r (listed.setIfInBounds i true) && tree3Chk md ops nh s (listed.setIfInBounds j true)
  | .three i r j s k t, listed => decide (i < nh) && decide (j < nh) && decide (k < nh) && decide (Region.ready md ops listed = [i, j, k]) && decide (r.len = s.len) && decide (r.len = t.len) && tree3Chk md ops nh r (listed.setIfInBounds i true) && tree3Chk md ops nh s (listed.setIfInBounds j true) && tree3Chk md ops nh t (listed.setIfInBounds k true)
/-- Behind an operation that acts: a condition S' that says more than S, and the rest. -/
def ActPost (Q : Exit → Act → World → Prop) (S : World → Prop) (X : (World → Prop) → Act → World → Prop) : Exit → Act → World → Prop
  | .normal, a, w => ∃ S' : World → Prop, (∀ w', S' w' → S w') ∧ S' w ∧ X S' a w
  | e, a, w => Q e a w
theorem ActPost.mk {Q : Exit → Act → World → Prop} {S : World → Prop} {X : (World → Prop) → Act → World → Prop} {a : Act} {w : World} (S' : World → Prop) (h : ∀ w', S' w' → S w') (h1 : S' w) (h2 : X S' a w) : ActPost Q S X .normal a w := ⟨S', h, h1, h2⟩
def wpT3 (P : Program) (ops : Array Oper) (l : List Oper) (Q : Exit → Act → World → Prop) (T : Act → World → Prop) : Ord3 → (World → Prop) → Act → World → Prop
  | .done, _, a, w => T a w
  | .q i r, S, a, w => ∃ v, YieldsC P ops S (pick l i) v a ∧ wpT3 P ops l Q T r S (a.put (pick l i).dst v) w
  | .one i r, S, a, w => wpList P ops (ActPost Q S (wpT3 P ops l Q T r)) [pick l i] a w
  | .two i r j s, S, a, w => wpList P ops (ActPost Q S (wpT3 P ops l Q T r)) [pick l i] a w ∧ wpList P ops (ActPost Q S (wpT3 P ops l Q T s)) [pick l j] a w
  | .three i r j s k t, S, a, w => wpList P ops (ActPost Q S (wpT3 P ops l Q T r)) [pick l i] a w ∧ wpList P ops (ActPost Q S (wpT3 P ops l Q T s)) [pick l j] a w ∧ wpList P ops (ActPost Q S (wpT3 P ops l Q T t)) [pick l k] a w
theorem wpHL_mono {S S' : World → Prop} (hS : ∀ w, S' w → S w) : ∀ (fuel : Nat) (listed : Array Bool) (a : Act) (w : World), wpHL P md ops Q S' nh fuel listed a w → wpHL P md ops Q S nh fuel listed a w
  | 0, _, _, _, h => h
  | fuel + 1, listed, a, w, h => by
    unfold wpHL at h ⊢
    split
    · rename_i hd; rw [if_pos hd] at h; exact h
    · rename_i hd
      rw [if_neg hd] at h
      exact ⟨h.1, fun i hi => wpOp_mono (fun a' w' h' => ⟨hS _ h'.1, wpHL_mono hS fuel _ a' w' h'.2⟩) (h.2 i hi)⟩
theorem wpOp_of_act {S : World → Prop} {X : (World → Prop) → Act → World → Prop} {Y : Act → World → Prop} {j : Nat} {oi : Oper} {a : Act} {w : World} (hoi : ops[j]? = some oi)
    (fin : ∀ S', (∀ w', S' w' → S w') → ∀ a' w', S' w' → X S' a' w' → Y a' w')
    (h : wpList P ops (ActPost Q S X) [oi] a w) : wpOp P ops Q j Y a w := by
  have fin' : ∀ a' w', (∃ S' : World → Prop, (∀ w', S' w' → S w') ∧ S' w' ∧ X S' a' w') → Y a' w' := fun a' w' ⟨S', h1, h2, h3⟩ => fin S' h1 a' w' h2 h3
  unfold wpOp
  simp only [hoi]
  simp only [wpList] at h
  split
  · rename_i hw
    rw [if_pos hw] at h
    rcases h with h | ⟨h1, h2⟩
    · refine .inl ?_
      unfold Oper.wp at *
      generalize (execOp a.eval oi).run P w = rs at *
      cases rs with
      | ok n w' =>
        cases n <;> simp only [Oper.upon] at h ⊢
        case value u => exact fin' _ _ h
        case skip => exact fin' _ _ h
        case defer d => exact fin' _ _ h
        case enter f args =>
          refine Calls.mono h fun e w'' he => ?_
          cases e with
          | returned u => exact fin' _ _ he
          | panicked c => exact he
          | outgrown => exact he
        case row row args => exact Rows.mono h fun u w'' he => fin' _ _ he
      | halt x w' => cases x <;> simp only [Oper.upon] at h ⊢; exact h
    · exact .inr ⟨h1, h2⟩
  · rename_i hw
    rw [if_neg hw] at h
    exact fin' _ _ h
theorem pick_of {l : List Oper} (hl : ops = l.toArray) {i : Nat} {oi : Oper} (hoi : ops[i]? = some oi) : pick l i = oi := by
  have hlt : i < ops.size := (Array.getElem?_eq_some_iff.1 hoi).1
  rw [pick_eq, ← hl]
  simp [getElem!_pos, hlt, (Array.getElem?_eq_some_iff.1 hoi).2]
theorem wpHL_of_tree3 {l : List Oper} (hl : ops = l.toArray) (hsel : Region.noSelect ops = true) (ht : tailB md ops nh = true) (hQ : ∀ c a d v w, Q (.panic c) (Act.put a d v) w → Q (.panic c) a w) (tl : List Oper) (htl : ∀ j, tl[j]? = ops[nh + j]?) (htn : tl.length = ops.size - nh) :
    ∀ (o : Ord3) (S : World → Prop) (listed : Array Bool) (a : Act) (w : World), Closed md ops listed → tree3Chk md ops nh o listed = true → S w →
      wpT3 P ops l Q (fun a w => wpList P ops Q tl a w) o S a w → wpHL P md ops Q S nh (o.len + (ops.size - nh)) listed a w
  | .done, S, listed, a, w, hcl, hB, hS, h => by
    simp only [tree3Chk, Bool.and_eq_true] at hB
    have := wpAny_of_seq (P := P) (md := md) (ops := ops) (Q' := Q) tl nh listed a w htl (by rw [htn]; exact hB.2) h
    rw [htn] at this
    simp only [Ord3.len, Nat.zero_add]
    cases hn : ops.size - nh with
    | zero => rw [hn] at this; exact ⟨hB.1, this⟩
    | succ n => rw [hn] at this; unfold wpHL; rw [if_pos hB.1]; exact this
  | .q i r, S, listed, a, w, hcl, hB, hS, h => by
    simp only [tree3Chk, Bool.and_eq_true, decide_eq_true_eq] at hB
    obtain ⟨⟨⟨hin, hr⟩, hf⟩, hrest⟩ := hB
    have hr' : i ∈ Region.ready md ops listed := by simpa using hr
    obtain ⟨_, oi, hoi, _⟩ := mem_ready.1 hr'
    obtain ⟨v, hy, h⟩ := h
    have e := pick_of hl hoi
    simp only [e] at hy h
    have hfin := wpHL_of_tree3 hl hsel ht hQ tl htl htn r S _ _ w (hcl.set hr') hrest hS h
    have := wpHL_firstC (Q := Q) (S := S) hoi hin hsel ht (fun c a w => hQ c a _ _ w) _ listed a w hcl (Region.free_spec hoi hf) hr' hy hS hfin
    rw [show (Ord3.q i r).len + (ops.size - nh) = r.len + (ops.size - nh) + 1 by simp [Ord3.len]; omega]
    exact this
  | .one i r, S, listed, a, w, hcl, hB, hS, h => by
    simp only [tree3Chk, Bool.and_eq_true, decide_eq_true_eq] at hB
    obtain ⟨⟨hin, hr⟩, hrest⟩ := hB
    have hr' : i ∈ Region.ready md ops listed := by rw [hr]; simp
    obtain ⟨hun, oi, hoi, _⟩ := mem_ready.1 hr'
    have e := pick_of hl hoi
    unfold wpT3 at h
    rw [e] at h
    rw [show (Ord3.one i r).len + (ops.size - nh) = r.len + (ops.size - nh) + 1 by simp [Ord3.len]; omega]
    unfold wpHL
    rw [if_neg (by rw [headDone_no hin hun]; simp), hr]
    refine ⟨by simp, fun j hj => ?_⟩
    obtain rfl : j = i := by simpa using hj
    exact wpOp_of_act hoi (fun S' hSS a' w' h1 h2 => ⟨hSS _ h1, wpHL_mono hSS _ _ _ _ (wpHL_of_tree3 hl hsel ht hQ tl htl htn r S' _ _ w' (hcl.set hr') hrest h1 h2)⟩) h
  | .two i r i2 s, S, listed, a, w, hcl, hB, hS, h => by
    simp only [tree3Chk, Bool.and_eq_true, decide_eq_true_eq] at hB
    obtain ⟨⟨⟨⟨⟨hin, hin2⟩, hr⟩, hls⟩, hrest⟩, hrest2⟩ := hB
    have hr' : i ∈ Region.ready md ops listed := by rw [hr]; simp
    have hr2 : i2 ∈ Region.ready md ops listed := by rw [hr]; simp
    obtain ⟨hun, oi, hoi, _⟩ := mem_ready.1 hr'
    obtain ⟨hun2, oj, hoj, _⟩ := mem_ready.1 hr2
    have e := pick_of hl hoi
    have e2 := pick_of hl hoj
    unfold wpT3 at h
    rw [e, e2] at h
    rw [show (Ord3.two i r i2 s).len + (ops.size - nh) = r.len + (ops.size - nh) + 1 by simp [Ord3.len]; omega]
    unfold wpHL
    rw [if_neg (by rw [headDone_no hin hun]; simp), hr]
    refine ⟨by simp, fun j hj => ?_⟩
    simp only [List.mem_cons, List.not_mem_nil, or_false] at hj
    rcases hj with rfl | rfl
    · exact wpOp_of_act hoi (fun S' hSS a' w' h1 h2 => ⟨hSS _ h1, wpHL_mono hSS _ _ _ _ (wpHL_of_tree3 hl hsel ht hQ tl htl htn r S' _ _ w' (hcl.set hr') hrest h1 h2)⟩) h.1
    · refine wpOp_of_act hoj (fun S' hSS a' w' h1 h2 => ⟨hSS _ h1, ?_⟩) h.2
      rw [hls]
      exact wpHL_mono hSS _ _ _ _ (wpHL_of_tree3 hl hsel ht hQ tl htl htn s S' _ _ w' (hcl.set hr2) hrest2 h1 h2)
  | .three i r i2 s i3 t, S, listed, a, w, hcl, hB, hS, h => by
    simp only [tree3Chk, Bool.and_eq_true, decide_eq_true_eq] at hB
    obtain ⟨⟨⟨⟨⟨⟨⟨⟨hin, hin2⟩, hin3⟩, hr⟩, hls⟩, hlt⟩, hrest⟩, hrest2⟩, hrest3⟩ := hB
    have hr' : i ∈ Region.ready md ops listed := by rw [hr]; simp
    have hr2 : i2 ∈ Region.ready md ops listed := by rw [hr]; simp
    have hr3 : i3 ∈ Region.ready md ops listed := by rw [hr]; simp
    obtain ⟨hun, oi, hoi, _⟩ := mem_ready.1 hr'
    obtain ⟨hun2, oj, hoj, _⟩ := mem_ready.1 hr2
    obtain ⟨hun3, ok, hok, _⟩ := mem_ready.1 hr3
    have e := pick_of hl hoi
    have e2 := pick_of hl hoj
    have e3 := pick_of hl hok
    unfold wpT3 at h
    rw [e, e2, e3] at h
    rw [show (Ord3.three i r i2 s i3 t).len + (ops.size - nh) = r.len + (ops.size - nh) + 1 by simp [Ord3.len]; omega]
    unfold wpHL
    rw [if_neg (by rw [headDone_no hin hun]; simp), hr]
    refine ⟨by simp, fun j hj => ?_⟩
    simp only [List.mem_cons, List.not_mem_nil, or_false] at hj
    rcases hj with rfl | rfl | rfl
    · exact wpOp_of_act hoi (fun S' hSS a' w' h1 h2 => ⟨hSS _ h1, wpHL_mono hSS _ _ _ _ (wpHL_of_tree3 hl hsel ht hQ tl htl htn r S' _ _ w' (hcl.set hr') hrest h1 h2)⟩) h.1
    · refine wpOp_of_act hoj (fun S' hSS a' w' h1 h2 => ⟨hSS _ h1, ?_⟩) h.2.1
      rw [hls]
      exact wpHL_mono hSS _ _ _ _ (wpHL_of_tree3 hl hsel ht hQ tl htl htn s S' _ _ w' (hcl.set hr2) hrest2 h1 h2)
    · refine wpOp_of_act hok (fun S' hSS a' w' h1 h2 => ⟨hSS _ h1, ?_⟩) h.2.2
      rw [hlt]
      exact wpHL_mono hSS _ _ _ _ (wpHL_of_tree3 hl hsel ht hQ tl htl htn t S' _ _ w' (hcl.set hr3) hrest3 h1 h2)
/-- **A region that draws its order, branch by branch.** -/
theorem wp_region_tree3 {id : Nat} {a : Act} {w : World} {l : List Oper} (S : World → Prop) (nh : Nat) (order : Ord3) (hm : P.follows .mixedOrders = true)
    (hB : (Region.noSelect l.toArray && tailB .any l.toArray nh && tree3Chk .any l.toArray nh order (Array.replicate l.toArray.size false) && decide (order.len + (l.toArray.size - nh) = l.toArray.size)) = true)
    (hQ : ∀ c a d v w, Q (.panic c) (Act.put a d v) w → Q (.panic c) a w) (hS : S w.drew)
    (h : wpT3 P l.toArray l Q (fun a w => wpList P l.toArray Q (l.drop nh) a w) order S a w.drew) : (Code.region id l.toArray true).wp P Q a w := by
  simp only [Bool.and_eq_true, decide_eq_true_eq] at hB
  obtain ⟨⟨⟨hsel, ht⟩, hc⟩, hlen⟩ := hB
  refine wp_region_any hm (wpAny_of_HL (S := S) (nh := nh) _ _ _ _ ?_)
  have := wpHL_of_tree3 (P := P) (Q := Q) (l := l) rfl hsel ht hQ (l.drop nh) (fun j => by simp [List.getElem?_drop]) (by simp) order S (Array.replicate l.toArray.size false) a w.drew
    ⟨by simp, fun j o _ hj => by rw [getD_replicate_false] at hj; cases hj⟩ hc hS h
  rw [hlen] at this
  exact this
section
variable {l : List Oper} {T : Act → World → Prop} {a : Act} {w : World}
theorem t3_done (h : T a w) : wpT3 P ops l Q T .done S a w := h
theorem t3_q {i : Nat} {r : Ord3} (v : Value) (hgd : (pick l i).guard = none) (hrun : ∀ w', S w' → (execOp a.eval (pick l i)).run P w' = .ok (.value v) w') (h : wpT3 P ops l Q T r S (a.put (pick l i).dst v) w) : wpT3 P ops l Q T (.q i r) S a w :=
  ⟨v, .inl (.inl ⟨by simp [Region.wanted, hgd], hrun⟩), h⟩
theorem t3_g {i : Nat} {r : Ord3} (v : Value) (hw : Region.wanted (pick l i) (yielded ops a.tmps) = true) (hrun : ∀ w', S w' → (execOp a.eval (pick l i)).run P w' = .ok (.value v) w') (h : wpT3 P ops l Q T r S (a.put (pick l i).dst v) w) : wpT3 P ops l Q T (.q i r) S a w :=
  ⟨v, .inl (.inl ⟨hw, hrun⟩), h⟩
theorem t3_no {i : Nat} {r : Ord3} (hw : Region.wanted (pick l i) (yielded ops a.tmps) = false) (h : wpT3 P ops l Q T r S (a.put (pick l i).dst undef) w) : wpT3 P ops l Q T (.q i r) S a w :=
  ⟨undef, .inl (.inr ⟨hw, rfl⟩), h⟩
/-- A call that only answers. -/
theorem t3_call {i : Nat} {r : Ord3} (v : Value) (hgd : (pick l i).guard = none) (f : FuncId) (args : Array Value) (hrun : ∀ w', (execOp a.eval (pick l i)).run P w' = .ok (.enter f args) w')
    (hc : ∀ w', S w' → Calls P f args w' fun e w2 => e = .returned v ∧ w' = w2) (h : wpT3 P ops l Q T r S (a.put (pick l i).dst v) w) : wpT3 P ops l Q T (.q i r) S a w :=
  ⟨v, .inr ⟨by simp [Region.wanted, hgd], f, args, fun w' hS => ⟨hrun w', hc w' hS⟩⟩, h⟩
/-- A run of cells is loaded. -/
theorem t3_load {i : Nat} {r : Ord3} (hgd : (pick l i).guard = none) (ty : TypeId) (x : Operand) (ho : (pick l i).op = .load ty x) (g off : Nat) (cs vs : List Value) (t : TypeId)
    (hx : a.eval x = .pointer (some ⟨g, off, none⟩)) (d : TypeDesc) (hu : P.underlying ty = some d) (hd : d.isRow = true) (hi : (P.info? ty).map (·.size) = some vs.length)
    (hv : (cs.drop off).take vs.length = vs) (hb : ∀ w', S w' → w'.heap[g]? = some (.cells cs.toArray t))
    (h : wpT3 P ops l Q T r S (a.put (pick l i).dst (.agg vs.toArray)) w) : wpT3 P ops l Q T (.q i r) S a w := by
  refine t3_q _ hgd (fun w' hS => ?_) h
  have hr : w'.rangeAt g off vs := by have := range_of_heap (hb w' hS) off vs.length; rwa [hv] at this
  unfold execOp
  simp only [ho, hx, Instr.loadAt, Instr.sureAddr, Sem.run_bind, Sem.run_pure, Result.andThen_ok, run_loadVar_mid w' g off ty vs d hr hu hd hi]
theorem t3_loadG {i : Nat} {r : Ord3} (hw : Region.wanted (pick l i) (yielded ops a.tmps) = true) (ty : TypeId) (x : Operand) (ho : (pick l i).op = .load ty x) (g off : Nat) (cs vs : List Value) (t : TypeId)
    (hx : a.eval x = .pointer (some ⟨g, off, none⟩)) (d : TypeDesc) (hu : P.underlying ty = some d) (hd : d.isRow = true) (hi : (P.info? ty).map (·.size) = some vs.length)
    (hv : (cs.drop off).take vs.length = vs) (hb : ∀ w', S w' → w'.heap[g]? = some (.cells cs.toArray t))
    (h : wpT3 P ops l Q T r S (a.put (pick l i).dst (.agg vs.toArray)) w) : wpT3 P ops l Q T (.q i r) S a w := by
  refine t3_g _ hw (fun w' hS => ?_) h
  have hr : w'.rangeAt g off vs := by have := range_of_heap (hb w' hS) off vs.length; rwa [hv] at this
  unfold execOp
  simp only [ho, hx, Instr.loadAt, Instr.sureAddr, Sem.run_bind, Sem.run_pure, Result.andThen_ok, run_loadVar_mid w' g off ty vs d hr hu hd hi]
theorem t3_one {i : Nat} {r : Ord3} (h : wpList P ops (ActPost Q S (wpT3 P ops l Q T r)) [pick l i] a w) : wpT3 P ops l Q T (.one i r) S a w := h
theorem t3_two {i j : Nat} {r s : Ord3} (h : wpList P ops (ActPost Q S (wpT3 P ops l Q T r)) [pick l i] a w) (h2 : wpList P ops (ActPost Q S (wpT3 P ops l Q T s)) [pick l j] a w) : wpT3 P ops l Q T (.two i r j s) S a w := ⟨h, h2⟩
theorem t3_three {i j k : Nat} {r s t : Ord3} (h : wpList P ops (ActPost Q S (wpT3 P ops l Q T r)) [pick l i] a w) (h2 : wpList P ops (ActPost Q S (wpT3 P ops l Q T s)) [pick l j] a w) (h3 : wpList P ops (ActPost Q S (wpT3 P ops l Q T t)) [pick l k] a w) : wpT3 P ops l Q T (.three i r j s k t) S a w := ⟨h, h2, h3⟩
end
end
end Go.Proofs.YtlcolabblpikjaaDoor
/-
  The document's own PrintAsk, in plain Go.
-/
namespace Go.Proofs.YtlcolabblpikjaaDoor
set_option linter.unusedVariables false
set_option linter.unusedSimpArgs false
set_option maxRecDepth 20000
open Go.RowKit

/-- Headers as lists. -/
def hl (hs : HBL) : HL := hs.map fun h => (sb h.1, sb h.2)
def aL (m u : ByteArray) (hs : HBL) (body : ByteArray) : AL := ⟨sb m, sb u, hl hs, sb body⟩
def av (m u : ByteArray) (v : Value) (b : ByteArray) : List Value := [.string m, .string u, v, .string b]
theorem one_av {m u : ByteArray} {v : Value} {b : ByteArray} (h : v.oneCell' = true) : ∀ x ∈ av m u v b, x.oneCell' = true := by
  intro x hx; simp only [av, List.mem_cons, List.not_mem_nil, or_false] at hx; rcases hx with rfl | rfl | rfl | rfl
  · rfl
  · rfl
  · exact h
  · rfl
theorem val_dots (n : List Int) : ValueOk ((n.length : Int) + 2) ([46] ++ n ++ [46]) ↔ ∀ x ∈ n, 32 ≤ x ∧ x ≤ 126 := by
  unfold ValueOk
  constructor
  · rintro ⟨h, _, _⟩ x hx; exact h x (by simp [hx])
  · intro h
    refine ⟨fun x hx => ?_, by simp; omega, .inr ⟨by simp, ?_⟩⟩
    · simp only [List.mem_append, List.mem_singleton] at hx
      rcases hx with (rfl | hx) | rfl
      · decide
      · exact h x hx
      · decide
    · have e : ([46] ++ n ++ [46] : List Int).length - 1 = ([46] ++ n : List Int).length := by simp
      rw [e, List.getD_eq_getElem?_getD, List.getElem?_append_right (Nat.le_refl _)]
      simp
theorem val_all (v : List Int) : ValueOk (v.length : Int) v ↔ ValA v := by
  unfold ValueOk ValA
  exact ⟨fun ⟨a, _, c⟩ => ⟨a, c⟩, fun ⟨a, c⟩ => ⟨a, Int.le_refl _, c⟩⟩
theorem drop_nil {p : Int → Bool} : ∀ {l : List Int}, l.dropWhile p = [] → ∀ x ∈ l, p x = true
  | [], _, x, hx => by cases hx
  | a :: t, h, x, hx => by
    by_cases ha : p a = true
    · rw [List.dropWhile_cons_of_pos ha] at h
      rcases List.mem_cons.1 hx with rfl | hx
      · exact ha
      · exact drop_nil h x hx
    · rw [List.dropWhile_cons_of_neg ha] at h; cases h
theorem behind_none (n : List Int) : behind [58] n = [] ↔ ∀ x ∈ n, x ≠ 58 := by
  constructor
  · intro h x hx he
    unfold behind at h
    have h1 := drop_nil h x hx
    rw [he] at h1
    simp at h1
  · intro h
    exact (ahead_full (st := [58]) (fun y hy => by rw [← Bool.not_eq_true]; intro hc; simp at hc; exact h y hy hc)).2
theorem headA_iff (n v : List Int) : HeadA (n, v) ↔ n ≠ [] ∧ behind [58] n = [] ∧ ValueOk ((n.length : Int) + 2) ([46] ++ n ++ [46]) ∧ ValueOk (v.length : Int) v := by
  rw [val_dots, val_all, behind_none]
  unfold HeadA NamA
  constructor
  · rintro ⟨⟨a, b⟩, c⟩; exact ⟨a, fun x hx => (b x hx).2, fun x hx => (b x hx).1, c⟩
  · rintro ⟨a, b, c, d⟩; exact ⟨⟨a, fun x hx => ⟨c x hx, b x hx⟩⟩, d⟩
theorem askP_none {a : AL} (h : ∀ u, parseI a.u = some u → ¬ AskOk a u) : askP a = none := by
  unfold askP
  cases hp : parseI a.u with
  | none => rfl
  | some u => rw [Option.bind_some, if_neg (h u hp)]
theorem askP_some {a : AL} {u : UL} (hp : parseI a.u = some u) (h : AskOk a u) : askP a = some (textA a u) := by
  unfold askP
  rw [hp, Option.bind_some, if_pos h]
theorem parse_small {l : List Int} {u : UL} (h : parseI l = some u) : (printI u).length ≤ 40 := by
  unfold parseI at h
  rw [Option.bind_eq_some_iff] at h
  obtain ⟨p, _, h⟩ := h
  unfold hostI at h
  split at h
  · rw [Option.bind_eq_some_iff] at h
    obtain ⟨q, _, h⟩ := h
    unfold restI at h
    simp only at h
    split at h
    · cases h
    · rename_i hn; cases h; omega
  · cases h
theorem hl_at {hs : HBL} {k : Nat} {h : ByteArray × ByteArray} (e : hs[k]? = some h) : (hl hs).take (k + 1) = (hl hs).take k ++ [(sb h.1, sb h.2)] := by
  obtain ⟨hk, rfl⟩ := List.getElem?_eq_some_iff.1 e
  unfold hl
  rw [List.take_succ_eq_append_getElem (by rw [List.length_map]; exact hk), List.getElem_map]
theorem headsP_take_len (hs : HL) (k : Nat) : (headsP (hs.take k)).length ≤ (headsP hs).length := by
  conv => rhs; rw [← List.take_append_drop k hs, headsP_app, List.length_append]
  omega
theorem one_url5 (a b : ByteArray) (k : Int) (c d : ByteArray) : ∀ v ∈ [Value.string a, Value.string b, Value.int .i64 k, Value.string c, Value.string d], v.oneCell' = true := by
  intro v hv
  simp only [List.mem_cons, List.not_mem_nil, or_false] at hv
  rcases hv with rfl | rfl | rfl | rfl | rfl <;> rfl
def MidS (w0 : World) (s : ByteArray) (L : Blks) (v : Value) (wx : World) : Prop := v = .string s ∧ Own w0 wx L
end Go.Proofs.YtlcolabblpikjaaDoor
/-
  The document's own ParseAsk, in plain Go.
-/
namespace Go.Proofs.YtlcolabblpikjaaDoor
set_option linter.unusedVariables false
set_option linter.unusedSimpArgs false
set_option maxRecDepth 20000
open Go.RowKit

def AL.zero : AL := ⟨[], [], [], []⟩
/-- What Parse answers, the program's and the document's. -/
def GotAsk (w0 : World) (R : Blks) (o : Option AL) (yes no : Value) (e : Ending) (w' : World) : Prop :=
  ∃ v L, e = .returned (.tuple #[.agg (av (strOfNums (o.getD AL.zero).m) (strOfNums (o.getD AL.zero).u) v (strOfNums (o.getD AL.zero).body)).toArray, if o.isSome then yes else no]) ∧ IsHeads v ((o.getD AL.zero).hs.map toB) L ∧ Own w0 w' (L ++ R)
theorem hl_toB {hs : HL} (h : ∀ x ∈ hs, Byt x.1 ∧ Byt x.2) : hl (hs.map toB) = hs := by
  unfold hl
  rw [List.map_map]
  conv => rhs; rw [← List.map_id hs]
  refine List.map_congr_left (fun x hx => ?_)
  obtain ⟨h1, h2⟩ := h x hx
  obtain ⟨a, b⟩ := x
  simp only [Function.comp, toB, id]
  rw [sb_str h1, sb_str h2]
theorem aL_str {a : AL} (h1 : Byt a.m) (h2 : Byt a.u) (h3 : ∀ x ∈ a.hs, Byt x.1 ∧ Byt x.2) (h4 : Byt a.body) : aL (strOfNums a.m) (strOfNums a.u) (a.hs.map toB) (strOfNums a.body) = a := by
  unfold aL
  rw [sb_str h1, sb_str h2, hl_toB h3, sb_str h4]
theorem headA_len {p n v : List Int} (hB : Byt p) (h : headA p = some (n, v)) : (headP (n, v)).length = p.length + 2 ∧ Byt n ∧ Byt v := by
  unfold headA at h
  split at h
  · rename_i hc
    cases h
    have e : ahead [58] p ++ behind [58] p = p := List.takeWhile_append_dropWhile
    have el := congrArg List.length e
    rw [List.length_append] at el
    refine ⟨?_, ahead_byt hB, byt_drop (behind_byt hB) 2⟩
    simp only [headP, List.length_append, List.length_cons, List.length_nil, List.length_drop]
    omega
  · cases h
theorem headsP_count (l : HL) : l.length ≤ (headsP l).length := by
  induction l with
  | nil => simp
  | cons h t ih => simp only [headsP, List.flatMap_cons, List.length_append, List.length_cons, headP, List.length_nil] at ih ⊢; omega
theorem lastA_len (hs : HL) (b : List Int) : (headsP (lastA (hs, b))).length ≤ (headsP hs).length := by
  unfold lastA
  simp only
  split
  · exact Nat.le_refl _
  · rw [List.dropLast_eq_take]; exact headsP_take_len _ _
theorem lastA_sub (hs : HL) (b : List Int) : ∀ x ∈ lastA (hs, b), x ∈ hs := by
  unfold lastA
  simp only
  split
  · exact fun x hx => hx
  · exact fun x hx => (List.dropLast_sublist _).subset hx
theorem textA_byt {a : AL} {u : UL} (h1 : Byt a.m) (h2 : u.Norm) (h3 : ∀ x ∈ a.hs, Byt x.1 ∧ Byt x.2) (h4 : Byt a.body) : Byt (textA a u) := by
  have hasc := printI_ascii h2
  rw [printI_parts] at hasc
  simp only [List.mem_append] at hasc
  have hk : ∀ (l : List Int), (∀ x ∈ l, 33 ≤ x ∧ x ≤ 126) → Byt l := fun l h x hx => by have := h x hx; omega
  have hc : ∀ (x : Int), Byt (x :: []) ↔ (0 ≤ x ∧ x ≤ 255) := fun x => ⟨fun h => h x (.head _), fun h y hy => by rw [List.mem_singleton.1 hy]; exact h⟩
  have hp : ∀ (h : List Int × List Int), Byt h.1 ∧ Byt h.2 → Byt (headP h) := fun h hh => by
    unfold headP
    refine byt_append hh.1 (byt_append (by intro x hx; simp at hx; omega) (byt_append hh.2 (by intro x hx; simp at hx; omega)))
  unfold textA topA
  have e : ∀ (a b : Int) (l : List Int), a :: b :: l = [a, b] ++ l := fun _ _ _ => rfl
  have hcr : Byt ([13, 10] : List Int) := by intro x hx; simp at hx; omega
  have b1 : Byt http11 := by intro x hx; simp [http11] at hx; omega
  have b2 : Byt hostW := by intro x hx; simp [hostW] at hx; omega
  have b3 : Byt schemeW := by intro x hx; simp [schemeW] at hx; omega
  have b4 : Byt clW := by intro x hx; simp [clW] at hx; omega
  have b5 : Byt ([32] : List Int) := by intro x hx; simp at hx; omega
  have q1 : Byt u.sch := hk _ fun x hx => hasc x (.inl hx)
  have q2 : Byt u.host := hk _ fun x hx => hasc x (.inr (.inr (.inl hx)))
  have q3 : Byt (portT u) := hk _ fun x hx => hasc x (.inr (.inr (.inr (.inl hx))))
  have q4 : Byt u.path := hk _ fun x hx => hasc x (.inr (.inr (.inr (.inr (.inl hx)))))
  have q5 : Byt u.query := hk _ fun x hx => hasc x (.inr (.inr (.inr (.inr (.inr hx)))))
  have z1 : Byt (u.sch ++ ([13, 10] : List Int)) := byt_append q1 hcr
  have z2 : Byt (13 :: 10 :: (schemeW ++ (u.sch ++ [13, 10]))) := byt_append hcr (byt_append b3 z1)
  have z3 : Byt (13 :: 10 :: (hostW ++ (u.host ++ (portT u ++ (13 :: 10 :: (schemeW ++ (u.sch ++ [13, 10]))))))) := byt_append hcr (byt_append b2 (byt_append q2 (byt_append q3 z2)))
  have z4 : Byt (32 :: (u.path ++ (u.query ++ (http11 ++ (13 :: 10 :: (hostW ++ (u.host ++ (portT u ++ (13 :: 10 :: (schemeW ++ (u.sch ++ [13, 10]))))))))))) := byt_append b5 (byt_append q4 (byt_append q5 (byt_append b1 z3)))
  have z5 : Byt (headsP a.hs) := by
    intro x hx
    unfold headsP at hx
    obtain ⟨h, hh, hx⟩ := List.mem_flatMap.1 hx
    exact hp h (h3 h hh) x hx
  have z6 : Byt (lenT a.body) := by
    unfold lenT
    split
    · intro x hx; cases hx
    · exact hp _ ⟨b4, digs_byt _⟩
  have z7 : Byt (13 :: 10 :: a.body) := byt_append hcr h4
  exact byt_append (byt_append h1 z4) (byt_append z5 (byt_append z6 z7))
theorem askP_byt {a : AL} {t : List Int} (h1 : Byt a.m) (h2 : Byt a.u) (h3 : ∀ x ∈ a.hs, Byt x.1 ∧ Byt x.2) (h4 : Byt a.body) (h : askP a = some t) : Byt t := by
  unfold askP at h
  rw [Option.bind_eq_some_iff] at h
  obtain ⟨u, hp, h⟩ := h
  split at h
  · cases h; exact textA_byt h1 (parseI_norm h2 hp) h3 h4
  · cases h
def MidP (w0 : World) (R : Blks) (g2 g11 : Nat) (mS uS bS : ByteArray) (hs : HL) (s11 : Value) (wx : World) : Prop :=
  s11 = .pointer (some ⟨g11, 0, none⟩) ∧ ∃ (A : Option Addr) (m c : Nat) (L : Blks), IsHeads (.slice A m c) (hs.map toB) L ∧ Own w0 wx ((g11, .cells (av mS uS (.slice A m c) bS).toArray 40) :: (g2, .cells (av ⟨#[]⟩ ⟨#[]⟩ (.slice none 0 0) ⟨#[]⟩).toArray 40) :: (L ++ R))
end Go.Proofs.YtlcolabblpikjaaDoor
