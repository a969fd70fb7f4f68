/-
  A region that draws its order, walked in ONE order: operations that yield the same in every world that meets S may be taken first; the others come up one by one; behind the head the rest is forced. No program is named here.
-/
import Derived.Test.YtkmfbfmmlldphaaDoorOps
import Derived.OrdersHeld
import Derived.StillTail
namespace Go.Proofs.YtkmfbfmmlldphaaDoor
set_option linter.unusedVariables false
set_option linter.unusedSimpArgs false
set_option maxRecDepth 20000
open Go.RowKit

/-- Operation j waits for i, through others too. -/
def waits (md : Region.Mode) (ops : Array Oper) : Nat → Nat → Nat → Bool
  | 0, _, _ => false
  | f + 1, j, i => ((ops[j]?).map fun o => o.after.toList.any fun e => Region.binds md e && (e.on == i || waits md ops f e.on i)).getD false
def headDone (nh : Nat) (listed : Array Bool) : Bool := (List.range nh).all fun i => listed.getD i false
def tailB (md : Region.Mode) (ops : Array Oper) (nh : Nat) : Bool := (List.range ops.size).all fun j => decide (j < nh) || (List.range nh).all fun i => waits md ops ops.size j i
def linChk (md : Region.Mode) (ops : Array Oper) (nh : Nat) : List (Nat × Bool) → Array Bool → Bool
  | [], listed => headDone nh listed && Region.seqB md ops (ops.size - nh) nh listed
  | (i, true) :: r, listed => decide (i < nh) && (Region.ready md ops listed).contains i && Region.free md ops listed i && linChk md ops nh r (listed.setIfInBounds i true)
  | (i, false) :: r, listed => decide (i < nh) && decide (Region.ready md ops listed = [i]) && linChk md ops nh r (listed.setIfInBounds i true)

section
variable {P : Program} {ops : Array Oper} {Q : Exit → Act → World → Prop} {md : Region.Mode} {S : World → Prop} {nh : Nat}

def Closed (md : Region.Mode) (ops : Array Oper) (listed : Array Bool) : Prop :=
  listed.size = ops.size ∧ ∀ (j : Nat) (o : Oper), ops[j]? = some o → listed.getD j false = true → ∀ e ∈ o.after, Region.binds md e = true → listed.getD e.on false = true
theorem Closed.set {listed : Array Bool} {i : Nat} (h : Closed md ops listed) (hi : i ∈ Region.ready md ops listed) : Closed md ops (listed.setIfInBounds i true) := by
  refine ⟨by simpa using h.1, fun j o ho hj e he hb => ?_⟩
  obtain ⟨_, o', ho', hall⟩ := mem_ready.1 hi
  by_cases hij : i = j
  · subst hij
    rw [ho'] at ho
    injection ho with ho
    subst ho
    exact getD_set_true (hall e he hb)
  · rw [getD_set_ne false hij] at hj
    exact getD_set_true (h.2 j o ho hj e he hb)
theorem waits_spec {listed : Array Bool} (h : Closed md ops listed) : ∀ (f j i : Nat), (∀ (o : Oper), ops[j]? = some o → ∀ e ∈ o.after, Region.binds md e = true → listed.getD e.on false = true) → waits md ops f j i = true → listed.getD i false = true
  | 0, _, _, _, hw => by simp [waits] at hw
  | f + 1, j, i, hj, hw => by
    unfold waits at hw
    cases ho : ops[j]? with
    | none => simp [ho] at hw
    | some o =>
      simp only [ho, Option.map_some, Option.getD_some, List.any_eq_true, Bool.and_eq_true, Bool.or_eq_true, beq_iff_eq] at hw
      obtain ⟨e, he, hb, hx⟩ := hw
      have he := Array.mem_toList_iff.1 he
      have hl := hj o ho e he hb
      rcases hx with rfl | hx
      · exact hl
      · exact waits_spec h f e.on i (fun o' ho' e' he' hb' => h.2 e.on o' ho' hl e' he' hb') hx
theorem ready_head {listed : Array Bool} {j : Nat} (ht : tailB md ops nh = true) (h : Closed md ops listed) (hj : j ∈ Region.ready md ops listed) (hd : headDone nh listed = false) : j < nh := by
  obtain ⟨_, o, ho, hall⟩ := mem_ready.1 hj
  have hlt : j < ops.size := (Array.getElem?_eq_some_iff.1 ho).1
  have h1 := List.all_eq_true.1 ht j (List.mem_range.2 hlt)
  simp only [Bool.or_eq_true, decide_eq_true_eq] at h1
  rcases h1 with h1 | h1
  · exact h1
  · exfalso
    have : headDone nh listed = true := by
      refine List.all_eq_true.2 fun i hi => ?_
      exact waits_spec h _ j i (fun o' ho' e he hb => by rw [ho] at ho'; injection ho' with ho'; subst ho'; exact hall e he hb) (List.all_eq_true.1 h1 i hi)
    rw [this] at hd; cases hd

def wpHL (P : Program) (md : Region.Mode) (ops : Array Oper) (Q : Exit → Act → World → Prop) (S : World → Prop) (nh : Nat) : Nat → Array Bool → Act → World → Prop
  | 0, listed, a, w => headDone nh listed = true ∧ wpAny P md ops Q 0 listed a w
  | fuel + 1, listed, a, w => if headDone nh listed = true then wpAny P md ops Q (fuel + 1) listed a w else
      Region.ready md ops listed ≠ [] ∧ ∀ i ∈ Region.ready md ops listed, wpOp P ops Q i (fun a' w' => S w' ∧ wpHL P md ops Q S nh fuel (listed.setIfInBounds i true) a' w') a w
theorem wpAny_of_HL : ∀ (fuel : Nat) (listed : Array Bool) (a : Act) (w : World), wpHL P md ops Q S nh fuel listed a w → wpAny P md ops Q fuel listed a w
  | 0, _, _, _, h => h.2
  | fuel + 1, listed, a, w, h => by
    unfold wpHL at h
    split at h
    · exact h
    · exact ⟨fun e => absurd e h.1, fun i hi => wpOp_mono (fun a' w' h' => wpAny_of_HL fuel _ a' w' h'.2) (h.2 i hi)⟩
theorem wpHL_first {i : Nat} {oi : Oper} {v : Value} (hi : ops[i]? = some oi) (hin : i < nh) (hsel : Region.noSelect ops = true) (ht : tailB md ops nh = true)
    (hQ : ∀ c a w, Q (.panic c) (a.put oi.dst v) w → Q (.panic c) a w) :
    ∀ (fuel : Nat) (listed : Array Bool) (a : Act) (w : World), Closed md ops listed →
      (∀ j oj, ops[j]? = some oj → j ≠ i → listed.getD j true = false → (∀ e ∈ oj.after, Region.binds md e = true → e.on ≠ i) → oi.apart ops oj = true) →
      i ∈ Region.ready md ops listed → YieldsIf P ops S oi v a → S w →
      wpHL P md ops Q S nh fuel (listed.setIfInBounds i true) (a.put oi.dst v) w → wpHL P md ops Q S nh (fuel + 1) listed a w := by
  have hun : ∀ {listed : Array Bool} {j : Nat}, j < nh → listed.getD j true = false → headDone nh listed = false := by
    intro listed j hj hl
    cases hd : headDone nh listed with
    | false => rfl
    | true =>
      have := List.all_eq_true.1 hd j (List.mem_range.2 hj)
      rw [getD_both hl] at this
      cases this
  intro fuel
  induction fuel with
  | zero =>
    intro listed a w hcl _ hr hy hS H
    unfold wpHL
    rw [if_neg (by rw [hun hin (mem_ready.1 hr).1]; simp)]
    refine ⟨fun h => (by rw [h] at hr; cases hr), fun j hj => ?_⟩
    by_cases hji : j = i
    · subst hji; exact hy.wpOp hi hS ⟨hS, H⟩
    · have hjn := ready_head ht hcl hj (hun hin (mem_ready.1 hr).1)
      have := hun hjn (mem_ready.1 (ready_mono hj hji)).1
      have H1 := H.1
      rw [this] at H1
      cases H1
  | succ fuel ih =>
    intro listed a w hcl hfree hr hy hS H
    unfold wpHL
    have hnd := hun hin (mem_ready.1 hr).1
    rw [if_neg (by rw [hnd]; simp)]
    refine ⟨fun h => (by rw [h] at hr; cases hr), fun j hj => ?_⟩
    by_cases hji : j = i
    · subst hji; exact hy.wpOp hi hS ⟨hS, H⟩
    · have hjn := ready_head ht hcl hj hnd
      have hnd' := hun hjn (mem_ready.1 (ready_mono hj hji)).1
      unfold wpHL at H
      rw [if_neg (by rw [hnd']; simp)] at H
      have h1 := H.2 j (ready_mono hj hji)
      obtain ⟨hjun, oj, hoj, hall⟩ := mem_ready.1 hj
      have hnot : ∀ e ∈ oj.after, Region.binds md e = true → e.on ≠ i := fun e he hb heq => by
        have h1 := hall e he hb
        rw [heq, getD_both (mem_ready.1 hr).1] at h1
        cases h1
      have h2 := wpOp_putIf hoj (hfree j oj hoj hji hjun hnot) (fun cs b => Region.noSelect_spec hsel i oi cs b hi) (fun cs b => Region.noSelect_spec hsel j oj cs b hoj) hQ hy h1
      have hfree' : ∀ k ok, ops[k]? = some ok → k ≠ i → (listed.setIfInBounds j true).getD k true = false →
          (∀ e ∈ ok.after, Region.binds md e = true → e.on ≠ i) → oi.apart ops ok = true := fun k ok hk hki hun' hno => by
        refine hfree k ok hk hki ?_ hno
        by_cases hjk : j = k
        · subst hjk; exact hjun
        · rw [getD_set_ne true hjk] at hun'; exact hun'
      refine wpOp_mono (fun a' w' h3 => ⟨h3.2.1, ih (listed.setIfInBounds j true) a' w' (hcl.set hj) hfree' (ready_mono hr (Ne.symm hji)) h3.1 h3.2.1 ?_⟩) h2
      rw [Array.setIfInBounds_comm _ _ hji]
      exact h3.2.2

/-- Behind an operation that acts: S anew, and the rest. -/
def LinPost (Q : Exit → Act → World → Prop) (S : World → Prop) (T : Act → World → Prop) : Exit → Act → World → Prop
  | .normal, a, w => S w ∧ T a w
  | e, a, w => Q e a w
theorem LinPost.mk {Q : Exit → Act → World → Prop} {S : World → Prop} {T : Act → World → Prop} {a : Act} {w : World} (h1 : S w) (h2 : T a w) : LinPost Q S T .normal a w := ⟨h1, h2⟩
/-- The head in one order; T behind it. -/
def wpLin (P : Program) (ops : Array Oper) (Q : Exit → Act → World → Prop) (S : World → Prop) (T : Act → World → Prop) : List (Oper × Bool) → Act → World → Prop
  | [], a, w => T a w
  | (o, true) :: r, a, w => ∃ v, YieldsIf P ops S o v a ∧ wpLin P ops Q S T r (a.put o.dst v) w
  | (o, false) :: r, a, w => wpList P ops (LinPost Q S (wpLin P ops Q S T r)) [o] a w

theorem wpHL_of_lin (hsel : Region.noSelect ops = true) (ht : tailB md ops nh = true) (hQ : ∀ c a d v w, Q (.panic c) (Act.put a d v) w → Q (.panic c) a w) (tl : List Oper) (htl : ∀ j, tl[j]? = ops[nh + j]?) (htn : tl.length = ops.size - nh) :
    ∀ (l : List (Nat × Bool)) (listed : Array Bool) (a : Act) (w : World), Closed md ops listed → linChk md ops nh l listed = true → S w →
      wpLin P ops Q S (fun a w => wpList P ops Q tl a w) (l.map fun p => (ops[p.1]!, p.2)) a w → wpHL P md ops Q S nh (l.length + (ops.size - nh)) listed a w
  | [], listed, a, w, hcl, hB, hS, h => by
    simp only [linChk, Bool.and_eq_true] at hB
    have := wpAny_of_seq (P := P) (md := md) (ops := ops) (Q' := Q) tl nh listed a w htl (by rw [htn]; exact hB.2) h
    rw [htn] at this
    simp only [List.length_nil, Nat.zero_add]
    cases hn : ops.size - nh with
    | zero => rw [hn] at this; exact ⟨hB.1, this⟩
    | succ n => rw [hn] at this; unfold wpHL; rw [if_pos hB.1]; exact this
  | (i, true) :: r, listed, a, w, hcl, hB, hS, h => by
    simp only [linChk, Bool.and_eq_true, decide_eq_true_eq] at hB
    obtain ⟨⟨⟨hin, hr⟩, hf⟩, hrest⟩ := hB
    have hr' : i ∈ Region.ready md ops listed := by simpa using hr
    obtain ⟨_, oi, hoi, _⟩ := mem_ready.1 hr'
    obtain ⟨v, hy, h⟩ := h
    have hlt : i < ops.size := (Array.getElem?_eq_some_iff.1 hoi).1
    have e : ops[i]! = oi := by simp [getElem!_pos, hlt, (Array.getElem?_eq_some_iff.1 hoi).2]
    simp only [e] at hy h
    have hfin := wpHL_of_lin hsel ht hQ tl htl htn r _ _ w (hcl.set hr') hrest hS h
    have := wpHL_first (Q := Q) (S := S) hoi hin hsel ht (fun c a w => hQ c a _ _ w) _ listed a w hcl (Region.free_spec hoi hf) hr' hy hS hfin
    rw [show ((i, true) :: r).length + (ops.size - nh) = r.length + (ops.size - nh) + 1 by simp; omega]
    exact this
  | (i, false) :: r, listed, a, w, hcl, hB, hS, h => by
    simp only [linChk, Bool.and_eq_true, decide_eq_true_eq] at hB
    obtain ⟨⟨hin, hr⟩, hrest⟩ := hB
    have hr' : i ∈ Region.ready md ops listed := by rw [hr]; simp
    obtain ⟨hun, oi, hoi, _⟩ := mem_ready.1 hr'
    have hlt : i < ops.size := (Array.getElem?_eq_some_iff.1 hoi).1
    have e : ops[i]! = oi := by simp [getElem!_pos, hlt, (Array.getElem?_eq_some_iff.1 hoi).2]
    simp only [List.map_cons, e] at h
    rw [show ((i, false) :: r).length + (ops.size - nh) = r.length + (ops.size - nh) + 1 by simp; omega]
    unfold wpHL
    have hnd : headDone nh listed = false := by
      cases hd : headDone nh listed with
      | false => rfl
      | true =>
        have := List.all_eq_true.1 hd i (List.mem_range.2 hin)
        rw [getD_both hun] at this
        cases this
    rw [if_neg (by rw [hnd]; simp), hr]
    refine ⟨by simp, fun j hj => ?_⟩
    obtain rfl : j = i := by simpa using hj
    unfold wpOp
    simp only [hoi]
    unfold wpLin at h
    simp only [wpList] at h
    split
    · rename_i hw
      rw [if_pos hw] at h
      rcases h with h | ⟨h1, h2⟩
      · refine .inl ?_
        unfold Oper.wp at *
        generalize (execOp a.eval oi).run P w = rs at *
        have fin : ∀ a' w', (S w' ∧ wpLin P ops Q S (fun a w => wpList P ops Q tl a w) (r.map fun p => (ops[p.1]!, p.2)) a' w') → S w' ∧ wpHL P md ops Q S nh (r.length + (ops.size - nh)) (listed.setIfInBounds j true) a' w' :=
          fun a' w' h' => ⟨h'.1, wpHL_of_lin hsel ht hQ tl htl htn r _ _ w' (hcl.set hr') hrest h'.1 h'.2⟩
        cases rs with
        | ok n w' =>
          cases n <;> simp only [Oper.upon] at h ⊢
          case value u => exact fin _ _ h
          case skip => exact fin _ _ h
          case defer d => exact fin _ _ h
          case enter f args =>
            refine Calls.mono h fun e w'' he => ?_
            cases e with
            | returned u => exact fin _ _ he
            | panicked c => exact he
            | outgrown => exact he
          case row row args => exact Rows.mono h fun u w'' he => fin _ _ he
        | halt x w' => cases x <;> simp only [Oper.upon] at h ⊢; exact h
      · exact .inr ⟨h1, h2⟩
    · rename_i hw
      rw [if_neg hw] at h
      exact ⟨h.1, wpHL_of_lin hsel ht hQ tl htl htn r _ _ w (hcl.set hr') hrest h.1 h.2⟩

def pick : List Oper → Nat → Oper
  | [], _ => default
  | o :: _, 0 => o
  | _ :: r, n + 1 => pick r n
theorem pick_zero (o : Oper) (r : List Oper) : pick (o :: r) 0 = o := rfl
theorem pick_succ (o : Oper) (r : List Oper) (n : Nat) : pick (o :: r) (n + 1) = pick r n := rfl
theorem pick_eq : ∀ (l : List Oper) (i : Nat), pick l i = l.toArray[i]!
  | [], _ => by simp [pick]
  | o :: r, 0 => by simp [pick]
  | o :: r, n + 1 => by simp [pick, pick_eq r n]
/-- **A region that draws its order, in one order.** order: the head's operations as they are to be walked (quiet?); the others, from number nh on, are forced. -/
theorem wp_region_lin {id : Nat} {a : Act} {w : World} {l : List Oper} (S : World → Prop) (nh : Nat) (order : List (Nat × Bool)) (hm : P.follows .mixedOrders = true)
    (hB : (Region.noSelect l.toArray && tailB .any l.toArray nh && linChk .any l.toArray nh order (Array.replicate l.toArray.size false) && decide (order.length + (l.toArray.size - nh) = l.toArray.size)) = true)
    (hQ : ∀ c a d v w, Q (.panic c) (Act.put a d v) w → Q (.panic c) a w) (hS : S w.drew)
    (h : wpLin P l.toArray Q S (fun a w => wpList P l.toArray Q (l.drop nh) a w) (order.map fun p => (pick l p.1, p.2)) a w.drew) : (Code.region id l.toArray true).wp P Q a w := by
  simp only [Bool.and_eq_true, decide_eq_true_eq] at hB
  obtain ⟨⟨⟨hsel, ht⟩, hc⟩, hlen⟩ := hB
  refine wp_region_any hm (wpAny_of_HL (S := S) (nh := nh) _ _ _ _ ?_)
  have := wpHL_of_lin (P := P) (Q := Q) (S := S) hsel ht hQ (l.drop nh) (fun j => by simp [List.getElem?_drop]) (by simp) order (Array.replicate l.toArray.size false) a w.drew
    ⟨by simp, fun j o _ hj => by rw [getD_replicate_false] at hj; cases hj⟩ hc hS (by simpa only [pick_eq] using h)
  rw [hlen] at this
  exact this

theorem lin_nil {T : Act → World → Prop} {a : Act} {w : World} (h : T a w) : wpLin P ops Q S T [] a w := h
/-- A quiet operation. -/
theorem lin_q {T : Act → World → Prop} {r : List (Oper × Bool)} {o : Oper} {a : Act} {w : World} (v : Value) (hgd : o.guard = none) (hrun : ∀ w', S w' → (execOp a.eval o).run P w' = .ok (.value v) w')
    (h : wpLin P ops Q S T r (a.put o.dst v) w) : wpLin P ops Q S T ((o, true) :: r) a w :=
  ⟨v, .inl ⟨by simp [Region.wanted, hgd], hrun⟩, h⟩
/-- One whose guard says yes. -/
theorem lin_g {T : Act → World → Prop} {r : List (Oper × Bool)} {o : Oper} {a : Act} {w : World} (v : Value) (hw : Region.wanted o (yielded ops a.tmps) = true) (hrun : ∀ w', S w' → (execOp a.eval o).run P w' = .ok (.value v) w')
    (h : wpLin P ops Q S T r (a.put o.dst v) w) : wpLin P ops Q S T ((o, true) :: r) a w :=
  ⟨v, .inl ⟨hw, hrun⟩, h⟩
/-- One whose guard says no. -/
theorem lin_no {T : Act → World → Prop} {r : List (Oper × Bool)} {o : Oper} {a : Act} {w : World} (hw : Region.wanted o (yielded ops a.tmps) = false)
    (h : wpLin P ops Q S T r (a.put o.dst undef) w) : wpLin P ops Q S T ((o, true) :: r) a w :=
  ⟨undef, .inr ⟨hw, rfl⟩, h⟩
/-- One that acts: by the laws on 'wpList'; behind it S anew. -/
theorem lin_act {T : Act → World → Prop} {r : List (Oper × Bool)} {o : Oper} {a : Act} {w : World}
    (h : wpList P ops (LinPost Q S (wpLin P ops Q S T r)) [o] a w) : wpLin P ops Q S T ((o, false) :: r) a w := h
theorem lin_load {T : Act → World → Prop} {r : List (Oper × Bool)} {op : Oper} {a : Act} {w : World} (hgd : op.guard = none) (ty : TypeId) (x : Operand) (ho : op.op = .load ty x) (g off : Nat) (cs vs : List Value) (t : TypeId)
    (hx : a.eval x = .pointer (some ⟨g, off, none⟩)) (d : TypeDesc) (hu : P.underlying ty = some d) (hd : d.isRow = true) (hi : (P.info? ty).map (·.size) = some vs.length)
    (hv : (cs.drop off).take vs.length = vs) (hb : ∀ w', S w' → w'.heap[g]? = some (.cells cs.toArray t))
    (h : wpLin P ops Q S T r (a.put op.dst (.agg vs.toArray)) w) : wpLin P ops Q S T ((op, true) :: r) a w := by
  refine lin_q _ hgd (fun w' hS => ?_) h
  have hr : w'.rangeAt g off vs := by have := range_of_heap (hb w' hS) off vs.length; rwa [hv] at this
  unfold execOp
  simp only [ho, hx, Instr.loadAt, Instr.sureAddr, Sem.run_bind, Sem.run_pure, Result.andThen_ok, run_loadVar_mid w' g off ty vs d hr hu hd hi]
theorem lin_loadG {T : Act → World → Prop} {r : List (Oper × Bool)} {op : Oper} {a : Act} {w : World} (hw : Region.wanted op (yielded ops a.tmps) = true) (ty : TypeId) (x : Operand) (ho : op.op = .load ty x) (g off : Nat) (cs vs : List Value) (t : TypeId)
    (hx : a.eval x = .pointer (some ⟨g, off, none⟩)) (d : TypeDesc) (hu : P.underlying ty = some d) (hd : d.isRow = true) (hi : (P.info? ty).map (·.size) = some vs.length)
    (hv : (cs.drop off).take vs.length = vs) (hb : ∀ w', S w' → w'.heap[g]? = some (.cells cs.toArray t))
    (h : wpLin P ops Q S T r (a.put op.dst (.agg vs.toArray)) w) : wpLin P ops Q S T ((op, true) :: r) a w := by
  refine lin_g _ hw (fun w' hS => ?_) h
  have hr : w'.rangeAt g off vs := by have := range_of_heap (hb w' hS) off vs.length; rwa [hv] at this
  unfold execOp
  simp only [ho, hx, Instr.loadAt, Instr.sureAddr, Sem.run_bind, Sem.run_pure, Result.andThen_ok, run_loadVar_mid w' g off ty vs d hr hu hd hi]
/-- One that would act, whose guard says no. -/
theorem lin_actno {T : Act → World → Prop} {r : List (Oper × Bool)} {o : Oper} {a : Act} {w : World} (hw : Region.wanted o (yielded ops a.tmps) = false) (hS : S w)
    (h : wpLin P ops Q S T r (a.put o.dst undef) w) : wpLin P ops Q S T ((o, false) :: r) a w := by
  refine lin_act ?_
  simp only [wpList]
  rw [if_neg (by rw [hw]; simp)]
  exact ⟨hS, h⟩
end
theorem wl_call {P : Program} {w : World} {ops : Array Oper} {rest : List Oper} {op : Oper} {a : Act} {Q : Exit → Act → World → Prop} (hgd : op.guard = none) (f : FuncId) (args : Array Value) (post : Ending → World → Prop)
    (hrun : (execOp a.eval op).run P w = .ok (.enter f args) w) (hc : Calls P f args w post)
    (h : ∀ e w', post e w' → ∃ v, e = .returned v ∧ wpList P ops Q rest (a.put op.dst v) w') : wpList P ops Q (op :: rest) a w := by
  refine wpList_plain hgd fun K hK => ?_
  unfold Oper.wp
  rw [hrun]
  simp only [Oper.upon]
  refine hc.mono fun e w' he => ?_
  obtain ⟨v, rfl, hv⟩ := h e w' he
  exact hK _ _ hv
end Go.Proofs.YtkmfbfmmlldphaaDoor
