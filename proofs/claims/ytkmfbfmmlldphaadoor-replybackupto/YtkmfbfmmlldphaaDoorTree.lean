/-
  A region that draws its order, in which an operation that acts floats beside others that act: both orders, branch by branch. No program is named here.
-/
import Derived.Test.YtkmfbfmmlldphaaDoorLin
namespace Go.Proofs.YtkmfbfmmlldphaaDoor
set_option linter.unusedVariables false
set_option linter.unusedSimpArgs false
set_option maxRecDepth 20000
open Go.RowKit

/-- How the head is walked: q: a quiet one, taken first; one: the only one that is ready; two: either of two. -/
inductive Ord where
  | done
  | q (i : Nat) (r : Ord)
  | one (i : Nat) (r : Ord)
  | two (i : Nat) (r : Ord) (j : Nat) (s : Ord)
def Ord.len : Ord → Nat
  | .done => 0
  | .q _ r => r.len + 1
  | .one _ r => r.len + 1
  | .two _ r _ _ => r.len + 1
def treeChk (md : Region.Mode) (ops : Array Oper) (nh : Nat) : Ord → Array Bool → Bool
  | .done, listed => headDone nh listed && Region.seqB md ops (ops.size - nh) nh listed
  | .q i r, listed => decide (i < nh) && (Region.ready md ops listed).contains i && Region.free md ops listed i && treeChk md ops nh r (listed.setIfInBounds i true)
  | .one i r, listed => decide (i < nh) && decide (Region.ready md ops listed = [i]) && treeChk md ops nh r (listed.setIfInBounds i true)
  | .two i r j s, listed => decide (i < nh) && decide (j < nh) && decide (Region.ready md ops listed = [i, j]) && decide (r.len = s.len) && treeChk md ops nh r (listed.setIfInBounds i true) && treeChk md ops nh s (listed.setIfInBounds j true)
section
variable {P : Program} {ops : Array Oper} {Q : Exit → Act → World → Prop} {md : Region.Mode} {S : World → Prop} {nh : Nat}
/-- The head branch by branch; T behind it. -/
def wpT (P : Program) (ops : Array Oper) (l : List Oper) (Q : Exit → Act → World → Prop) (S : World → Prop) (T : Act → World → Prop) : Ord → Act → World → Prop
  | .done, a, w => T a w
  | .q i r, a, w => ∃ v, YieldsIf P ops S (pick l i) v a ∧ wpT P ops l Q S T r (a.put (pick l i).dst v) w
  | .one i r, a, w => wpList P ops (LinPost Q S (wpT P ops l Q S T r)) [pick l i] a w
  | .two i r j s, a, w => wpList P ops (LinPost Q S (wpT P ops l Q S T r)) [pick l i] a w ∧ wpList P ops (LinPost Q S (wpT P ops l Q S T s)) [pick l j] a w

theorem wpOp_of_list {X : Act → World → Prop} {Y : Act → World → Prop} {j : Nat} {oi : Oper} {a : Act} {w : World} (hoi : ops[j]? = some oi) (fin : ∀ a' w', S w' ∧ X a' w' → Y a' w')
    (h : wpList P ops (LinPost Q S X) [oi] a w) : wpOp P ops Q j Y a w := by
  unfold wpOp
  simp only [hoi]
  simp only [wpList] at h
  split
  · rename_i hw
    rw [if_pos hw] at h
    rcases h with h | ⟨h1, h2⟩
    · refine .inl ?_
      unfold Oper.wp at *
      generalize (execOp a.eval oi).run P w = rs at *
      cases rs with
      | ok n w' =>
        cases n <;> simp only [Oper.upon] at h ⊢
        case value u => exact fin _ _ h
        case skip => exact fin _ _ h
        case defer d => exact fin _ _ h
        case enter f args =>
          refine Calls.mono h fun e w'' he => ?_
          cases e with
          | returned u => exact fin _ _ he
          | panicked c => exact he
          | outgrown => exact he
        case row row args => exact Rows.mono h fun u w'' he => fin _ _ he
      | halt x w' => cases x <;> simp only [Oper.upon] at h ⊢; exact h
    · exact .inr ⟨h1, h2⟩
  · rename_i hw
    rw [if_neg hw] at h
    exact fin _ _ h
theorem headDone_no {listed : Array Bool} {i : Nat} (hin : i < nh) (hun : listed.getD i true = false) : headDone nh listed = false := by
  cases hd : headDone nh listed with
  | false => rfl
  | true =>
    have := List.all_eq_true.1 hd i (List.mem_range.2 hin)
    rw [getD_both hun] at this
    cases this
theorem wpHL_of_tree {l : List Oper} (hl : ops = l.toArray) (hsel : Region.noSelect ops = true) (ht : tailB md ops nh = true) (hQ : ∀ c a d v w, Q (.panic c) (Act.put a d v) w → Q (.panic c) a w) (tl : List Oper) (htl : ∀ j, tl[j]? = ops[nh + j]?) (htn : tl.length = ops.size - nh) :
    ∀ (o : Ord) (listed : Array Bool) (a : Act) (w : World), Closed md ops listed → treeChk md ops nh o listed = true → S w →
      wpT P ops l Q S (fun a w => wpList P ops Q tl a w) o a w → wpHL P md ops Q S nh (o.len + (ops.size - nh)) listed a w
  | .done, listed, a, w, hcl, hB, hS, h => by
    simp only [treeChk, Bool.and_eq_true] at hB
    have := wpAny_of_seq (P := P) (md := md) (ops := ops) (Q' := Q) tl nh listed a w htl (by rw [htn]; exact hB.2) h
    rw [htn] at this
    simp only [Ord.len, Nat.zero_add]
    cases hn : ops.size - nh with
    | zero => rw [hn] at this; exact ⟨hB.1, this⟩
    | succ n => rw [hn] at this; unfold wpHL; rw [if_pos hB.1]; exact this
  | .q i r, listed, a, w, hcl, hB, hS, h => by
    simp only [treeChk, Bool.and_eq_true, decide_eq_true_eq] at hB
    obtain ⟨⟨⟨hin, hr⟩, hf⟩, hrest⟩ := hB
    have hr' : i ∈ Region.ready md ops listed := by simpa using hr
    obtain ⟨_, oi, hoi, _⟩ := mem_ready.1 hr'
    obtain ⟨v, hy, h⟩ := h
    have hlt : i < ops.size := (Array.getElem?_eq_some_iff.1 hoi).1
    have e : pick l i = oi := by rw [pick_eq, ← hl]; simp [getElem!_pos, hlt, (Array.getElem?_eq_some_iff.1 hoi).2]
    simp only [e] at hy h
    have hfin := wpHL_of_tree hl hsel ht hQ tl htl htn r _ _ w (hcl.set hr') hrest hS h
    have := wpHL_first (Q := Q) (S := S) hoi hin hsel ht (fun c a w => hQ c a _ _ w) _ listed a w hcl (Region.free_spec hoi hf) hr' hy hS hfin
    rw [show (Ord.q i r).len + (ops.size - nh) = r.len + (ops.size - nh) + 1 by simp [Ord.len]; omega]
    exact this
  | .one i r, listed, a, w, hcl, hB, hS, h => by
    simp only [treeChk, Bool.and_eq_true, decide_eq_true_eq] at hB
    obtain ⟨⟨hin, hr⟩, hrest⟩ := hB
    have hr' : i ∈ Region.ready md ops listed := by rw [hr]; simp
    obtain ⟨hun, oi, hoi, _⟩ := mem_ready.1 hr'
    have hlt : i < ops.size := (Array.getElem?_eq_some_iff.1 hoi).1
    have e : pick l i = oi := by rw [pick_eq, ← hl]; simp [getElem!_pos, hlt, (Array.getElem?_eq_some_iff.1 hoi).2]
    unfold wpT at h
    rw [e] at h
    rw [show (Ord.one i r).len + (ops.size - nh) = r.len + (ops.size - nh) + 1 by simp [Ord.len]; omega]
    unfold wpHL
    rw [if_neg (by rw [headDone_no hin hun]; simp), hr]
    refine ⟨by simp, fun j hj => ?_⟩
    obtain rfl : j = i := by simpa using hj
    exact wpOp_of_list hoi (fun a' w' h' => ⟨h'.1, wpHL_of_tree hl hsel ht hQ tl htl htn r _ _ w' (hcl.set hr') hrest h'.1 h'.2⟩) h
  | .two i r i2 s, listed, a, w, hcl, hB, hS, h => by
    simp only [treeChk, Bool.and_eq_true, decide_eq_true_eq] at hB
    obtain ⟨⟨⟨⟨⟨hin, hin2⟩, hr⟩, hls⟩, hrest⟩, hrest2⟩ := hB
    have hr' : i ∈ Region.ready md ops listed := by rw [hr]; simp
    have hr2 : i2 ∈ Region.ready md ops listed := by rw [hr]; simp
    obtain ⟨hun, oi, hoi, _⟩ := mem_ready.1 hr'
    obtain ⟨hun2, oj, hoj, _⟩ := mem_ready.1 hr2
    have hlt : i < ops.size := (Array.getElem?_eq_some_iff.1 hoi).1
    have hlt2 : i2 < ops.size := (Array.getElem?_eq_some_iff.1 hoj).1
    have e : pick l i = oi := by rw [pick_eq, ← hl]; simp [getElem!_pos, hlt, (Array.getElem?_eq_some_iff.1 hoi).2]
    have e2 : pick l i2 = oj := by rw [pick_eq, ← hl]; simp [getElem!_pos, hlt2, (Array.getElem?_eq_some_iff.1 hoj).2]
    unfold wpT at h
    rw [e, e2] at h
    rw [show (Ord.two i r i2 s).len + (ops.size - nh) = r.len + (ops.size - nh) + 1 by simp [Ord.len]; omega]
    unfold wpHL
    rw [if_neg (by rw [headDone_no hin hun]; simp), hr]
    refine ⟨by simp, fun j hj => ?_⟩
    simp only [List.mem_cons, List.not_mem_nil, or_false] at hj
    rcases hj with rfl | rfl
    · exact wpOp_of_list hoi (fun a' w' h' => ⟨h'.1, wpHL_of_tree hl hsel ht hQ tl htl htn r _ _ w' (hcl.set hr') hrest h'.1 h'.2⟩) h.1
    · refine wpOp_of_list hoj (fun a' w' h' => ⟨h'.1, ?_⟩) h.2
      rw [hls]
      exact wpHL_of_tree hl hsel ht hQ tl htl htn s _ _ w' (hcl.set hr2) hrest2 h'.1 h'.2
/-- **A region that draws its order, branch by branch.** -/
theorem wp_region_tree {id : Nat} {a : Act} {w : World} {l : List Oper} (S : World → Prop) (nh : Nat) (order : Ord) (hm : P.follows .mixedOrders = true)
    (hB : (Region.noSelect l.toArray && tailB .any l.toArray nh && treeChk .any l.toArray nh order (Array.replicate l.toArray.size false) && decide (order.len + (l.toArray.size - nh) = l.toArray.size)) = true)
    (hQ : ∀ c a d v w, Q (.panic c) (Act.put a d v) w → Q (.panic c) a w) (hS : S w.drew)
    (h : wpT P l.toArray l Q S (fun a w => wpList P l.toArray Q (l.drop nh) a w) order a w.drew) : (Code.region id l.toArray true).wp P Q a w := by
  simp only [Bool.and_eq_true, decide_eq_true_eq] at hB
  obtain ⟨⟨⟨hsel, ht⟩, hc⟩, hlen⟩ := hB
  refine wp_region_any hm (wpAny_of_HL (S := S) (nh := nh) _ _ _ _ ?_)
  have := wpHL_of_tree (P := P) (Q := Q) (S := S) (l := l) rfl hsel ht hQ (l.drop nh) (fun j => by simp [List.getElem?_drop]) (by simp) order (Array.replicate l.toArray.size false) a w.drew
    ⟨by simp, fun j o _ hj => by rw [getD_replicate_false] at hj; cases hj⟩ hc hS h
  rw [hlen] at this
  exact this
section
variable {l : List Oper} {T : Act → World → Prop} {a : Act} {w : World}
theorem tr_done (h : T a w) : wpT P ops l Q S T .done a w := h
theorem tr_q {i : Nat} {r : Ord} (v : Value) (hgd : (pick l i).guard = none) (hrun : ∀ w', S w' → (execOp a.eval (pick l i)).run P w' = .ok (.value v) w') (h : wpT P ops l Q S T r (a.put (pick l i).dst v) w) : wpT P ops l Q S T (.q i r) a w :=
  ⟨v, .inl ⟨by simp [Region.wanted, hgd], hrun⟩, h⟩
theorem tr_one {i : Nat} {r : Ord} (h : wpList P ops (LinPost Q S (wpT P ops l Q S T r)) [pick l i] a w) : wpT P ops l Q S T (.one i r) a w := h
theorem tr_two {i j : Nat} {r s : Ord} (h : wpList P ops (LinPost Q S (wpT P ops l Q S T r)) [pick l i] a w) (h2 : wpList P ops (LinPost Q S (wpT P ops l Q S T s)) [pick l j] a w) : wpT P ops l Q S T (.two i r j s) a w := ⟨h, h2⟩
end
end
end Go.Proofs.YtkmfbfmmlldphaaDoor
