/-
  Texts that the laws stand on: Tree, Tree3, VarsC.
-/
import Derived.Test.YtfgaikacijdodaaGreatDoorM1
import Derived.Test.YtfgaikacijdodaaGreatDoorM7
import Derived.Test.YtfgaikacijdodaaGreatDoorCards
import Derived.Test.YtfgaikacijdodaaGreatDoorTie
import Derived.WalkKit
import Derived.ProofKit
import Derived.OpenShut
import Derived.ShutString
import Derived.Deep.DeepHandedRow
import Derived.Lib.LaidTab
import Derived.Stop.LaidErr

/-
  A region that draws its order, in which an operation that acts floats beside others that act: both orders, branch by branch. No program is named here.
-/
namespace Go.Proofs.YtfgaikacijdodaaGreatDoor
set_option linter.unusedVariables false
set_option linter.unusedSimpArgs false
set_option maxRecDepth 20000
open Go.RowKit

/-- How the head is walked: q: a quiet one, taken first; one: the only one that is ready; two: either of two. -/
inductive Ord where
  | done
  | q (i : Nat) (r : Ord)
  | one (i : Nat) (r : Ord)
  | two (i : Nat) (r : Ord) (j : Nat) (s : Ord)
def Ord.len : Ord → Nat
  | .done => 0
  | .q _ r => r.len + 1
  | .one _ r => r.len + 1
  | .two _ r _ _ => r.len + 1
def treeChk (md : Region.Mode) (ops : Array Oper) (nh : Nat) : Ord → Array Bool → Bool
  | .done, listed => headDone nh listed && Region.seqB md ops (ops.size - nh) nh listed
  | .q i r, listed => decide (i < nh) && (Region.ready md ops listed).contains i && Region.free md ops listed i && treeChk md ops nh r (listed.setIfInBounds i true)
  | .one i r, listed => decide (i < nh) && decide (Region.ready md ops listed = [i]) && treeChk md ops nh r (listed.setIfInBounds i true)
  | .two i r j s, listed => decide (i < nh) && decide (j < nh) && decide (Region.ready md ops listed = [i, j]) && decide (r.len = s.len) && treeChk md ops nh r (listed.setIfInBounds i true) && treeChk md ops nh s (listed.setIfInBounds j true)
section
variable {P : Program} {ops : Array Oper} {Q : Exit → Act → World → Prop} {md : Region.Mode} {S : World → Prop} {nh : Nat}
/-- The head branch by branch; T behind it. -/
def wpT (P : Program) (ops : Array Oper) (l : List Oper) (Q : Exit → Act → World → Prop) (S : World → Prop) (T : Act → World → Prop) : Ord → Act → World → Prop
  | .done, a, w => T a w
  | .q i r, a, w => ∃ v, YieldsIf P ops S (pick l i) v a ∧ wpT P ops l Q S T r (a.put (pick l i).dst v) w
  | .one i r, a, w => wpList P ops (LinPost Q S (wpT P ops l Q S T r)) [pick l i] a w
  | .two i r j s, a, w => wpList P ops (LinPost Q S (wpT P ops l Q S T r)) [pick l i] a w ∧ wpList P ops (LinPost Q S (wpT P ops l Q S T s)) [pick l j] a w

theorem wpOp_of_list {X : Act → World → Prop} {Y : Act → World → Prop} {j : Nat} {oi : Oper} {a : Act} {w : World} (hoi : ops[j]? = some oi) (fin : ∀ a' w', S w' ∧ X a' w' → Y a' w')
    (h : wpList P ops (LinPost Q S X) [oi] a w) : wpOp P ops Q j Y a w := by
  unfold wpOp
  simp only [hoi]
  simp only [wpList] at h
  split
  · rename_i hw
    rw [if_pos hw] at h
    rcases h with h | ⟨h1, h2⟩
    · refine .inl ?_
      unfold Oper.wp at *
      generalize (execOp a.eval oi).run P w = rs at *
      cases rs with
      | ok n w' =>
        cases n <;> simp only [Oper.upon] at h ⊢
        case value u => exact fin _ _ h
        case skip => exact fin _ _ h
        case defer d => exact fin _ _ h
        case enter f args =>
          refine Calls.mono h fun e w'' he => ?_
          cases e with
          | returned u => exact fin _ _ he
          | panicked c => exact he
          | outgrown => exact he
        case row row args => exact Rows.mono h fun u w'' he => fin _ _ he
      | halt x w' => cases x <;> simp only [Oper.upon] at h ⊢; exact h
    · exact .inr ⟨h1, h2⟩
  · rename_i hw
    rw [if_neg hw] at h
    exact fin _ _ h
theorem headDone_no {listed : Array Bool} {i : Nat} (hin : i < nh) (hun : listed.getD i true = false) : headDone nh listed = false := by
  cases hd : headDone nh listed with
  | false => rfl
  | true =>
    have := List.all_eq_true.1 hd i (List.mem_range.2 hin)
    rw [getD_both hun] at this
    cases this
theorem wpHL_of_tree {l : List Oper} (hl : ops = l.toArray) (hsel : Region.noSelect ops = true) (ht : tailB md ops nh = true) (hQ : ∀ c a d v w, Q (.panic c) (Act.put a d v) w → Q (.panic c) a w) (tl : List Oper) (htl : ∀ j, tl[j]? = ops[nh + j]?) (htn : tl.length = ops.size - nh) :
    ∀ (o : Ord) (listed : Array Bool) (a : Act) (w : World), Closed md ops listed → treeChk md ops nh o listed = true → S w →
      wpT P ops l Q S (fun a w => wpList P ops Q tl a w) o a w → wpHL P md ops Q S nh (o.len + (ops.size - nh)) listed a w
  | .done, listed, a, w, hcl, hB, hS, h => by
    simp only [treeChk, Bool.and_eq_true] at hB
    have := wpAny_of_seq (P := P) (md := md) (ops := ops) (Q' := Q) tl nh listed a w htl (by rw [htn]; exact hB.2) h
    rw [htn] at this
    simp only [Ord.len, Nat.zero_add]
    cases hn : ops.size - nh with
    | zero => rw [hn] at this; exact ⟨hB.1, this⟩
    | succ n => rw [hn] at this; unfold wpHL; rw [if_pos hB.1]; exact this
  | .q i r, listed, a, w, hcl, hB, hS, h => by
    simp only [treeChk, Bool.and_eq_true, decide_eq_true_eq] at hB
    obtain ⟨⟨⟨hin, hr⟩, hf⟩, hrest⟩ := hB
    have hr' : i ∈ Region.ready md ops listed := by simpa using hr
    obtain ⟨_, oi, hoi, _⟩ := mem_ready.1 hr'
    obtain ⟨v, hy, h⟩ := h
    have hlt : i < ops.size := (Array.getElem?_eq_some_iff.1 hoi).1
    have e : pick l i = oi := by rw [pick_eq, ← hl]; simp [getElem!_pos, hlt, (Array.getElem?_eq_some_iff.1 hoi).2]
    simp only [e] at hy h
    have hfin := wpHL_of_tree hl hsel ht hQ tl htl htn r _ _ w (hcl.set hr') hrest hS h
    have := wpHL_first (Q := Q) (S := S) hoi hin hsel ht (fun c a w => hQ c a _ _ w) _ listed a w hcl (Region.free_spec hoi hf) hr' hy hS hfin
    rw [show (Ord.q i r).len + (ops.size - nh) = r.len + (ops.size - nh) + 1 by simp [Ord.len]; omega]
    exact this
  | .one i r, listed, a, w, hcl, hB, hS, h => by
    simp only [treeChk, Bool.and_eq_true, decide_eq_true_eq] at hB
    obtain ⟨⟨hin, hr⟩, hrest⟩ := hB
    have hr' : i ∈ Region.ready md ops listed := by rw [hr]; simp
    obtain ⟨hun, oi, hoi, _⟩ := mem_ready.1 hr'
    have hlt : i < ops.size := (Array.getElem?_eq_some_iff.1 hoi).1
    have e : pick l i = oi := by rw [pick_eq, ← hl]; simp [getElem!_pos, hlt, (Array.getElem?_eq_some_iff.1 hoi).2]
    unfold wpT at h
    rw [e] at h
    rw [show (Ord.one i r).len + (ops.size - nh) = r.len + (ops.size - nh) + 1 by simp [Ord.len]; omega]
    unfold wpHL
    rw [if_neg (by rw [headDone_no hin hun]; simp), hr]
    refine ⟨by simp, fun j hj => ?_⟩
    obtain rfl : j = i := by simpa using hj
    exact wpOp_of_list hoi (fun a' w' h' => ⟨h'.1, wpHL_of_tree hl hsel ht hQ tl htl htn r _ _ w' (hcl.set hr') hrest h'.1 h'.2⟩) h
  | .two i r i2 s, listed, a, w, hcl, hB, hS, h => by
    simp only [treeChk, Bool.and_eq_true, decide_eq_true_eq] at hB
    obtain ⟨⟨⟨⟨⟨hin, hin2⟩, hr⟩, hls⟩, hrest⟩, hrest2⟩ := hB
    have hr' : i ∈ Region.ready md ops listed := by rw [hr]; simp
    have hr2 : i2 ∈ Region.ready md ops listed := by rw [hr]; simp
    obtain ⟨hun, oi, hoi, _⟩ := mem_ready.1 hr'
    obtain ⟨hun2, oj, hoj, _⟩ := mem_ready.1 hr2
    have hlt : i < ops.size := (Array.getElem?_eq_some_iff.1 hoi).1
    have hlt2 : i2 < ops.size := (Array.getElem?_eq_some_iff.1 hoj).1
    have e : pick l i = oi := by rw [pick_eq, ← hl]; simp [getElem!_pos, hlt, (Array.getElem?_eq_some_iff.1 hoi).2]
    have e2 : pick l i2 = oj := by rw [pick_eq, ← hl]; simp [getElem!_pos, hlt2, (Array.getElem?_eq_some_iff.1 hoj).2]
    unfold wpT at h
    rw [e, e2] at h
    rw [show (Ord.two i r i2 s).len + (ops.size - nh) = r.len + (ops.size - nh) + 1 by simp [Ord.len]; omega]
    unfold wpHL
    rw [if_neg (by rw [headDone_no hin hun]; simp), hr]
    refine ⟨by simp, fun j hj => ?_⟩
    simp only [List.mem_cons, List.not_mem_nil, or_false] at hj
    rcases hj with rfl | rfl
    · exact wpOp_of_list hoi (fun a' w' h' => ⟨h'.1, wpHL_of_tree hl hsel ht hQ tl htl htn r _ _ w' (hcl.set hr') hrest h'.1 h'.2⟩) h.1
    · refine wpOp_of_list hoj (fun a' w' h' => ⟨h'.1, ?_⟩) h.2
      rw [hls]
      exact wpHL_of_tree hl hsel ht hQ tl htl htn s _ _ w' (hcl.set hr2) hrest2 h'.1 h'.2
/-- **A region that draws its order, branch by branch.** -/
theorem wp_region_tree {id : Nat} {a : Act} {w : World} {l : List Oper} (S : World → Prop) (nh : Nat) (order : Ord) (hm : P.follows .mixedOrders = true)
    (hB : (Region.noSelect l.toArray && tailB .any l.toArray nh && treeChk .any l.toArray nh order (Array.replicate l.toArray.size false) && decide (order.len + (l.toArray.size - nh) = l.toArray.size)) = true)
    (hQ : ∀ c a d v w, Q (.panic c) (Act.put a d v) w → Q (.panic c) a w) (hS : S w.drew)
    (h : wpT P l.toArray l Q S (fun a w => wpList P l.toArray Q (l.drop nh) a w) order a w.drew) : (Code.region id l.toArray true).wp P Q a w := by
  simp only [Bool.and_eq_true, decide_eq_true_eq] at hB
  obtain ⟨⟨⟨hsel, ht⟩, hc⟩, hlen⟩ := hB
  refine wp_region_any hm (wpAny_of_HL (S := S) (nh := nh) _ _ _ _ ?_)
  have := wpHL_of_tree (P := P) (Q := Q) (S := S) (l := l) rfl hsel ht hQ (l.drop nh) (fun j => by simp [List.getElem?_drop]) (by simp) order (Array.replicate l.toArray.size false) a w.drew
    ⟨by simp, fun j o _ hj => by rw [getD_replicate_false] at hj; cases hj⟩ hc hS h
  rw [hlen] at this
  exact this
section
variable {l : List Oper} {T : Act → World → Prop} {a : Act} {w : World}
theorem tr_done (h : T a w) : wpT P ops l Q S T .done a w := h
theorem tr_q {i : Nat} {r : Ord} (v : Value) (hgd : (pick l i).guard = none) (hrun : ∀ w', S w' → (execOp a.eval (pick l i)).run P w' = .ok (.value v) w') (h : wpT P ops l Q S T r (a.put (pick l i).dst v) w) : wpT P ops l Q S T (.q i r) a w :=
  ⟨v, .inl ⟨by simp [Region.wanted, hgd], hrun⟩, h⟩
theorem tr_one {i : Nat} {r : Ord} (h : wpList P ops (LinPost Q S (wpT P ops l Q S T r)) [pick l i] a w) : wpT P ops l Q S T (.one i r) a w := h
theorem tr_two {i j : Nat} {r s : Ord} (h : wpList P ops (LinPost Q S (wpT P ops l Q S T r)) [pick l i] a w) (h2 : wpList P ops (LinPost Q S (wpT P ops l Q S T s)) [pick l j] a w) : wpT P ops l Q S T (.two i r j s) a w := ⟨h, h2⟩
end
end
end Go.Proofs.YtfgaikacijdodaaGreatDoor
/-
  A region that draws its order, branch by branch: up to three operations that act may float beside one another; a call that answers the same in every world that meets S, and leaves the world as it is, is taken first as a quiet operation is. No program is named here.
-/
namespace Go.Proofs.YtfgaikacijdodaaGreatDoor
set_option linter.unusedVariables false
set_option linter.unusedSimpArgs false
set_option maxRecDepth 20000
open Go.RowKit

section
variable {P : Program} {ops : Array Oper} {Q : Exit → Act → World → Prop} {md : Region.Mode} {S : World → Prop} {nh : Nat}
/-- In state a the operation yields v, by itself or by a call that only answers, in every world that meets S. -/
def YieldsC (P : Program) (ops : Array Oper) (S : World → Prop) (o : Oper) (v : Value) (a : Act) : Prop :=
  YieldsIf P ops S o v a ∨ (Region.wanted o (yielded ops a.tmps) = true ∧ ∃ f args, ∀ w, S w → (execOp a.eval o).run P w = .ok (.enter f args) w ∧ Calls P f args w fun e w' => e = .returned v ∧ w = w')
theorem YieldsC.wpOp {i : Nat} {o : Oper} {v : Value} {a : Act} (hi : ops[i]? = some o) (hy : YieldsC P ops S o v a)
    {K : Act → World → Prop} {w : World} (hS : S w) (h : K (a.put o.dst v) w) : wpOp P ops Q i K a w := by
  rcases hy with hy | ⟨hw, f, args, hc⟩
  · exact YieldsIf.wpOp hi hy hS h
  · obtain ⟨hr, hc⟩ := hc w hS
    unfold Go.wpOp
    simp only [hi, hw, if_true, Oper.wp, hr, Oper.upon]
    refine .inl (hc.mono fun e w' he => ?_)
    obtain ⟨rfl, rfl⟩ := he
    exact h
theorem YieldsC.of_same {o : Oper} {v : Value} {a a' : Act} (hy : YieldsC P ops S o v a) (he : execOp a'.eval o = execOp a.eval o)
    (hw : Region.wanted o (yielded ops a'.tmps) = Region.wanted o (yielded ops a.tmps)) : YieldsC P ops S o v a' := by
  rcases hy with hy | hy
  · exact .inl (hy.of_same he hw)
  · refine .inr ?_
    rw [he, hw]
    exact hy
theorem wpOp_putC {j : Nat} {oi oj : Oper} {v : Value} (hj : ops[j]? = some oj) (hap : oi.apart ops oj = true)
    (hsi : ∀ cs b, oi.op ≠ .select cs b) (hsj : ∀ cs b, oj.op ≠ .select cs b)
    (hQ : ∀ c a w, Q (.panic c) (a.put oi.dst v) w → Q (.panic c) a w) {K : Act → World → Prop} {a : Act} {w : World}
    (hy : YieldsC P ops S oi v a) (h : wpOp P ops Q j K (a.put oi.dst v) w) :
    wpOp P ops Q j (fun a' w' => YieldsC P ops S oi v a' ∧ K (a'.put oi.dst v) w') a w := by
  obtain ⟨h1, h2, h3⟩ := Oper.apart_spec hap
  have keep : ∀ (a : Act), YieldsC P ops S oi v a → ∀ u, YieldsC P ops S oi v (a.put oj.dst u) := fun a hy u =>
    hy.of_same (execOp_put oi hsi a oj.dst u h3) (wanted_put oi a oj.dst u h3)
  have keepD : ∀ d, YieldsC P ops S oi v { a with defers := d :: a.defers } := fun d => hy.of_same rfl rfl
  unfold wpOp at *
  simp only [hj] at *
  rw [wanted_put oj a oi.dst v h1] at h
  split
  · rename_i hw
    simp only [hw, if_true] at h
    rcases h with h | ⟨hasks, hlets⟩
    case inr => exact .inr ⟨by unfold Oper.asks at *; rw [execOp_put oj hsj a oi.dst v h1] at hasks; exact hasks, hlets⟩
    refine .inl ?_
    unfold Oper.wp at *
    rw [execOp_put oj hsj a oi.dst v h1] at h
    generalize (execOp a.eval oj).run P w = r at *
    cases r with
    | ok n w' =>
      cases n <;> simp only [Oper.upon] at h ⊢
      case value u => exact ⟨keep a hy u, by rw [← Act.put_comm a v u h2]; exact h⟩
      case skip => exact ⟨keep a hy _, by rw [← Act.put_comm a v undef h2]; exact h⟩
      case defer d =>
        refine ⟨keep _ (keepD d) _, ?_⟩
        rw [← Act.put_comm _ v undef h2, ← Act.put_defers]
        exact h
      case enter f args =>
        refine Calls.mono h fun e w'' he => ?_
        cases e with
        | returned u => exact ⟨keep a hy u, by rw [← Act.put_comm a v u h2]; exact he⟩
        | panicked c => exact hQ _ _ _ he
        | outgrown => exact he
      case row row args => exact Rows.mono h fun u w'' he => ⟨keep a hy u, by rw [← Act.put_comm a v u h2]; exact he⟩
    | halt x w' =>
      cases x <;> simp only [Oper.upon] at h ⊢
      case panic u => exact hQ _ _ _ h
  · rename_i hw
    simp only [hw] at h
    exact ⟨keep a hy _, by rw [← Act.put_comm a v undef h2]; exact h⟩
theorem wpHL_firstC {i : Nat} {oi : Oper} {v : Value} (hi : ops[i]? = some oi) (hin : i < nh) (hsel : Region.noSelect ops = true) (ht : tailB md ops nh = true)
    (hQ : ∀ c a w, Q (.panic c) (a.put oi.dst v) w → Q (.panic c) a w) :
    ∀ (fuel : Nat) (listed : Array Bool) (a : Act) (w : World), Closed md ops listed →
      (∀ j oj, ops[j]? = some oj → j ≠ i → listed.getD j true = false → (∀ e ∈ oj.after, Region.binds md e = true → e.on ≠ i) → oi.apart ops oj = true) →
      i ∈ Region.ready md ops listed → YieldsC P ops S oi v a → S w →
      wpHL P md ops Q S nh fuel (listed.setIfInBounds i true) (a.put oi.dst v) w → wpHL P md ops Q S nh (fuel + 1) listed a w := by
  have hun : ∀ {listed : Array Bool} {j : Nat}, j < nh → listed.getD j true = false → headDone nh listed = false := by
    intro listed j hj hl
    exact headDone_no hj hl
  intro fuel
  induction fuel with
  | zero =>
    intro listed a w hcl _ hr hy hS H
    unfold wpHL
    rw [if_neg (by rw [hun hin (mem_ready.1 hr).1]; simp)]
    refine ⟨fun h => (by rw [h] at hr; cases hr), fun j hj => ?_⟩
    by_cases hji : j = i
    · subst hji; exact hy.wpOp hi hS ⟨hS, H⟩
    · have hjn := ready_head ht hcl hj (hun hin (mem_ready.1 hr).1)
      have := hun hjn (mem_ready.1 (ready_mono hj hji)).1
      have H1 := H.1
      rw [this] at H1
      cases H1
  | succ fuel ih =>
    intro listed a w hcl hfree hr hy hS H
    unfold wpHL
    have hnd := hun hin (mem_ready.1 hr).1
    rw [if_neg (by rw [hnd]; simp)]
    refine ⟨fun h => (by rw [h] at hr; cases hr), fun j hj => ?_⟩
    by_cases hji : j = i
    · subst hji; exact hy.wpOp hi hS ⟨hS, H⟩
    · have hjn := ready_head ht hcl hj hnd
      have hnd' := hun hjn (mem_ready.1 (ready_mono hj hji)).1
      unfold wpHL at H
      rw [if_neg (by rw [hnd']; simp)] at H
      have h1 := H.2 j (ready_mono hj hji)
      obtain ⟨hjun, oj, hoj, hall⟩ := mem_ready.1 hj
      have hnot : ∀ e ∈ oj.after, Region.binds md e = true → e.on ≠ i := fun e he hb heq => by
        have h1 := hall e he hb
        rw [heq, getD_both (mem_ready.1 hr).1] at h1
        cases h1
      have h2 := wpOp_putC hoj (hfree j oj hoj hji hjun hnot) (fun cs b => Region.noSelect_spec hsel i oi cs b hi) (fun cs b => Region.noSelect_spec hsel j oj cs b hoj) hQ hy h1
      have hfree' : ∀ k ok, ops[k]? = some ok → k ≠ i → (listed.setIfInBounds j true).getD k true = false →
          (∀ e ∈ ok.after, Region.binds md e = true → e.on ≠ i) → oi.apart ops ok = true := fun k ok hk hki hun' hno => by
        refine hfree k ok hk hki ?_ hno
        by_cases hjk : j = k
        · subst hjk; exact hjun
        · rw [getD_set_ne true hjk] at hun'; exact hun'
      refine wpOp_mono (fun a' w' h3 => ⟨h3.2.1, ih (listed.setIfInBounds j true) a' w' (hcl.set hj) hfree' (ready_mono hr (Ne.symm hji)) h3.1 h3.2.1 ?_⟩) h2
      rw [Array.setIfInBounds_comm _ _ hji]
      exact h3.2.2

/-- How the head is walked: q: a quiet one, taken first; one, two, three: whichever of those that are ready. -/
inductive Ord3 where
  | done
  | q (i : Nat) (r : Ord3)
  | one (i : Nat) (r : Ord3)
  | two (i : Nat) (r : Ord3) (j : Nat) (s : Ord3)
  | three (i : Nat) (r : Ord3) (j : Nat) (s : Ord3) (k : Nat) (t : Ord3)
def Ord3.len : Ord3 → Nat
  | .done => 0
  | .q _ r => r.len + 1
  | .one _ r => r.len + 1
  | .two _ r _ _ => r.len + 1
  | .three _ r _ _ _ _ => r.len + 1
/-- The quiet ones of a list, one behind the other. -/
def Ord3.qs : List Nat → Ord3 → Ord3
  | [], r => r
  | i :: l, r => .q i (Ord3.qs l r)
def tree3Chk (md : Region.Mode) (ops : Array Oper) (nh : Nat) : Ord3 → Array Bool → Bool
  | .done, listed => headDone nh listed && Region.seqB md ops (ops.size - nh) nh listed
  | .q i r, listed => decide (i < nh) && (Region.ready md ops listed).contains i && Region.free md ops listed i && tree3Chk md ops nh r (listed.setIfInBounds i true)
  | .one i r, listed => decide (i < nh) && decide (Region.ready md ops listed = [i]) && tree3Chk md ops nh r (listed.setIfInBounds i true)
  | .two i r j s, listed => decide (i < nh) && decide (j < nh) && decide (Region.ready md ops listed = [i, j]) && decide (r.len = s.len) && tree3Chk md ops nh r (listed.setIfInBounds i true) && tree3Chk md ops nh s (listed.setIfInBounds j true)
  | .three i r j s k t, listed => decide (i < nh) && decide (j < nh) && decide (k < nh) && decide (Region.ready md ops listed = [i, j, k]) && decide (r.len = s.len) && decide (r.len = t.len) && tree3Chk md ops nh r (listed.setIfInBounds i true) && tree3Chk md ops nh s (listed.setIfInBounds j true) && tree3Chk md ops nh t (listed.setIfInBounds k true)
/-- Behind an operation that acts: a condition S' that says more than S, and the rest. -/
def ActPost (Q : Exit → Act → World → Prop) (S : World → Prop) (X : (World → Prop) → Act → World → Prop) : Exit → Act → World → Prop
  | .normal, a, w => ∃ S' : World → Prop, (∀ w', S' w' → S w') ∧ S' w ∧ X S' a w
  | e, a, w => Q e a w
theorem ActPost.mk {Q : Exit → Act → World → Prop} {S : World → Prop} {X : (World → Prop) → Act → World → Prop} {a : Act} {w : World} (S' : World → Prop) (h : ∀ w', S' w' → S w') (h1 : S' w) (h2 : X S' a w) : ActPost Q S X .normal a w := ⟨S', h, h1, h2⟩
def wpT3 (P : Program) (ops : Array Oper) (l : List Oper) (Q : Exit → Act → World → Prop) (T : Act → World → Prop) : Ord3 → (World → Prop) → Act → World → Prop
  | .done, _, a, w => T a w
  | .q i r, S, a, w => ∃ v, YieldsC P ops S (pick l i) v a ∧ wpT3 P ops l Q T r S (a.put (pick l i).dst v) w
  | .one i r, S, a, w => wpList P ops (ActPost Q S (wpT3 P ops l Q T r)) [pick l i] a w
  | .two i r j s, S, a, w => wpList P ops (ActPost Q S (wpT3 P ops l Q T r)) [pick l i] a w ∧ wpList P ops (ActPost Q S (wpT3 P ops l Q T s)) [pick l j] a w
  | .three i r j s k t, S, a, w => wpList P ops (ActPost Q S (wpT3 P ops l Q T r)) [pick l i] a w ∧ wpList P ops (ActPost Q S (wpT3 P ops l Q T s)) [pick l j] a w ∧ wpList P ops (ActPost Q S (wpT3 P ops l Q T t)) [pick l k] a w
theorem wpHL_mono {S S' : World → Prop} (hS : ∀ w, S' w → S w) : ∀ (fuel : Nat) (listed : Array Bool) (a : Act) (w : World), wpHL P md ops Q S' nh fuel listed a w → wpHL P md ops Q S nh fuel listed a w
  | 0, _, _, _, h => h
  | fuel + 1, listed, a, w, h => by
    unfold wpHL at h ⊢
    split
    · rename_i hd; rw [if_pos hd] at h; exact h
    · rename_i hd
      rw [if_neg hd] at h
      exact ⟨h.1, fun i hi => wpOp_mono (fun a' w' h' => ⟨hS _ h'.1, wpHL_mono hS fuel _ a' w' h'.2⟩) (h.2 i hi)⟩
theorem wpOp_of_act {S : World → Prop} {X : (World → Prop) → Act → World → Prop} {Y : Act → World → Prop} {j : Nat} {oi : Oper} {a : Act} {w : World} (hoi : ops[j]? = some oi)
    (fin : ∀ S', (∀ w', S' w' → S w') → ∀ a' w', S' w' → X S' a' w' → Y a' w')
    (h : wpList P ops (ActPost Q S X) [oi] a w) : wpOp P ops Q j Y a w := by
  have fin' : ∀ a' w', (∃ S' : World → Prop, (∀ w', S' w' → S w') ∧ S' w' ∧ X S' a' w') → Y a' w' := fun a' w' ⟨S', h1, h2, h3⟩ => fin S' h1 a' w' h2 h3
  unfold wpOp
  simp only [hoi]
  simp only [wpList] at h
  split
  · rename_i hw
    rw [if_pos hw] at h
    rcases h with h | ⟨h1, h2⟩
    · refine .inl ?_
      unfold Oper.wp at *
      generalize (execOp a.eval oi).run P w = rs at *
      cases rs with
      | ok n w' =>
        cases n <;> simp only [Oper.upon] at h ⊢
        case value u => exact fin' _ _ h
        case skip => exact fin' _ _ h
        case defer d => exact fin' _ _ h
        case enter f args =>
          refine Calls.mono h fun e w'' he => ?_
          cases e with
          | returned u => exact fin' _ _ he
          | panicked c => exact he
          | outgrown => exact he
        case row row args => exact Rows.mono h fun u w'' he => fin' _ _ he
      | halt x w' => cases x <;> simp only [Oper.upon] at h ⊢; exact h
    · exact .inr ⟨h1, h2⟩
  · rename_i hw
    rw [if_neg hw] at h
    exact fin' _ _ h
theorem pick_of {l : List Oper} (hl : ops = l.toArray) {i : Nat} {oi : Oper} (hoi : ops[i]? = some oi) : pick l i = oi := by
  have hlt : i < ops.size := (Array.getElem?_eq_some_iff.1 hoi).1
  rw [pick_eq, ← hl]
  simp [getElem!_pos, hlt, (Array.getElem?_eq_some_iff.1 hoi).2]
theorem wpHL_of_tree3 {l : List Oper} (hl : ops = l.toArray) (hsel : Region.noSelect ops = true) (ht : tailB md ops nh = true) (hQ : ∀ c a d v w, Q (.panic c) (Act.put a d v) w → Q (.panic c) a w) (tl : List Oper) (htl : ∀ j, tl[j]? = ops[nh + j]?) (htn : tl.length = ops.size - nh) :
    ∀ (o : Ord3) (S : World → Prop) (listed : Array Bool) (a : Act) (w : World), Closed md ops listed → tree3Chk md ops nh o listed = true → S w →
      wpT3 P ops l Q (fun a w => wpList P ops Q tl a w) o S a w → wpHL P md ops Q S nh (o.len + (ops.size - nh)) listed a w
  | .done, S, listed, a, w, hcl, hB, hS, h => by
    simp only [tree3Chk, Bool.and_eq_true] at hB
    have := wpAny_of_seq (P := P) (md := md) (ops := ops) (Q' := Q) tl nh listed a w htl (by rw [htn]; exact hB.2) h
    rw [htn] at this
    simp only [Ord3.len, Nat.zero_add]
    cases hn : ops.size - nh with
    | zero => rw [hn] at this; exact ⟨hB.1, this⟩
    | succ n => rw [hn] at this; unfold wpHL; rw [if_pos hB.1]; exact this
  | .q i r, S, listed, a, w, hcl, hB, hS, h => by
    simp only [tree3Chk, Bool.and_eq_true, decide_eq_true_eq] at hB
    obtain ⟨⟨⟨hin, hr⟩, hf⟩, hrest⟩ := hB
    have hr' : i ∈ Region.ready md ops listed := by simpa using hr
    obtain ⟨_, oi, hoi, _⟩ := mem_ready.1 hr'
    obtain ⟨v, hy, h⟩ := h
    have e := pick_of hl hoi
    simp only [e] at hy h
    have hfin := wpHL_of_tree3 hl hsel ht hQ tl htl htn r S _ _ w (hcl.set hr') hrest hS h
    have := wpHL_firstC (Q := Q) (S := S) hoi hin hsel ht (fun c a w => hQ c a _ _ w) _ listed a w hcl (Region.free_spec hoi hf) hr' hy hS hfin
    rw [show (Ord3.q i r).len + (ops.size - nh) = r.len + (ops.size - nh) + 1 by simp [Ord3.len]; omega]
    exact this
  | .one i r, S, listed, a, w, hcl, hB, hS, h => by
    simp only [tree3Chk, Bool.and_eq_true, decide_eq_true_eq] at hB
    obtain ⟨⟨hin, hr⟩, hrest⟩ := hB
    have hr' : i ∈ Region.ready md ops listed := by rw [hr]; simp
    obtain ⟨hun, oi, hoi, _⟩ := mem_ready.1 hr'
    have e := pick_of hl hoi
    unfold wpT3 at h
    rw [e] at h
    rw [show (Ord3.one i r).len + (ops.size - nh) = r.len + (ops.size - nh) + 1 by simp [Ord3.len]; omega]
    unfold wpHL
    rw [if_neg (by rw [headDone_no hin hun]; simp), hr]
    refine ⟨by simp, fun j hj => ?_⟩
    obtain rfl : j = i := by simpa using hj
    exact wpOp_of_act hoi (fun S' hSS a' w' h1 h2 => ⟨hSS _ h1, wpHL_mono hSS _ _ _ _ (wpHL_of_tree3 hl hsel ht hQ tl htl htn r S' _ _ w' (hcl.set hr') hrest h1 h2)⟩) h
  | .two i r i2 s, S, listed, a, w, hcl, hB, hS, h => by
    simp only [tree3Chk, Bool.and_eq_true, decide_eq_true_eq] at hB
    obtain ⟨⟨⟨⟨⟨hin, hin2⟩, hr⟩, hls⟩, hrest⟩, hrest2⟩ := hB
    have hr' : i ∈ Region.ready md ops listed := by rw [hr]; simp
    have hr2 : i2 ∈ Region.ready md ops listed := by rw [hr]; simp
    obtain ⟨hun, oi, hoi, _⟩ := mem_ready.1 hr'
    obtain ⟨hun2, oj, hoj, _⟩ := mem_ready.1 hr2
    have e := pick_of hl hoi
    have e2 := pick_of hl hoj
    unfold wpT3 at h
    rw [e, e2] at h
    rw [show (Ord3.two i r i2 s).len + (ops.size - nh) = r.len + (ops.size - nh) + 1 by simp [Ord3.len]; omega]
    unfold wpHL
    rw [if_neg (by rw [headDone_no hin hun]; simp), hr]
    refine ⟨by simp, fun j hj => ?_⟩
    simp only [List.mem_cons, List.not_mem_nil, or_false] at hj
    rcases hj with rfl | rfl
    · exact wpOp_of_act hoi (fun S' hSS a' w' h1 h2 => ⟨hSS _ h1, wpHL_mono hSS _ _ _ _ (wpHL_of_tree3 hl hsel ht hQ tl htl htn r S' _ _ w' (hcl.set hr') hrest h1 h2)⟩) h.1
    · refine wpOp_of_act hoj (fun S' hSS a' w' h1 h2 => ⟨hSS _ h1, ?_⟩) h.2
      rw [hls]
      exact wpHL_mono hSS _ _ _ _ (wpHL_of_tree3 hl hsel ht hQ tl htl htn s S' _ _ w' (hcl.set hr2) hrest2 h1 h2)
  | .three i r i2 s i3 t, S, listed, a, w, hcl, hB, hS, h => by
    simp only [tree3Chk, Bool.and_eq_true, decide_eq_true_eq] at hB
    obtain ⟨⟨⟨⟨⟨⟨⟨⟨hin, hin2⟩, hin3⟩, hr⟩, hls⟩, hlt⟩, hrest⟩, hrest2⟩, hrest3⟩ := hB
    have hr' : i ∈ Region.ready md ops listed := by rw [hr]; simp
    have hr2 : i2 ∈ Region.ready md ops listed := by rw [hr]; simp
    have hr3 : i3 ∈ Region.ready md ops listed := by rw [hr]; simp
    obtain ⟨hun, oi, hoi, _⟩ := mem_ready.1 hr'
    obtain ⟨hun2, oj, hoj, _⟩ := mem_ready.1 hr2
    obtain ⟨hun3, ok, hok, _⟩ := mem_ready.1 hr3
    have e := pick_of hl hoi
    have e2 := pick_of hl hoj
    have e3 := pick_of hl hok
    unfold wpT3 at h
    rw [e, e2, e3] at h
    rw [show (Ord3.three i r i2 s i3 t).len + (ops.size - nh) = r.len + (ops.size - nh) + 1 by simp [Ord3.len]; omega]
    unfold wpHL
    rw [if_neg (by rw [headDone_no hin hun]; simp), hr]
    refine ⟨by simp, fun j hj => ?_⟩
    simp only [List.mem_cons, List.not_mem_nil, or_false] at hj
    rcases hj with rfl | rfl | rfl
    · exact wpOp_of_act hoi (fun S' hSS a' w' h1 h2 => ⟨hSS _ h1, wpHL_mono hSS _ _ _ _ (wpHL_of_tree3 hl hsel ht hQ tl htl htn r S' _ _ w' (hcl.set hr') hrest h1 h2)⟩) h.1
    · refine wpOp_of_act hoj (fun S' hSS a' w' h1 h2 => ⟨hSS _ h1, ?_⟩) h.2.1
      rw [hls]
      exact wpHL_mono hSS _ _ _ _ (wpHL_of_tree3 hl hsel ht hQ tl htl htn s S' _ _ w' (hcl.set hr2) hrest2 h1 h2)
    · refine wpOp_of_act hok (fun S' hSS a' w' h1 h2 => ⟨hSS _ h1, ?_⟩) h.2.2
      rw [hlt]
      exact wpHL_mono hSS _ _ _ _ (wpHL_of_tree3 hl hsel ht hQ tl htl htn t S' _ _ w' (hcl.set hr3) hrest3 h1 h2)
/-- **A region that draws its order, branch by branch.** -/
theorem wp_region_tree3 {id : Nat} {a : Act} {w : World} {l : List Oper} (S : World → Prop) (nh : Nat) (order : Ord3) (hm : P.follows .mixedOrders = true)
    (hB : (Region.noSelect l.toArray && tailB .any l.toArray nh && tree3Chk .any l.toArray nh order (Array.replicate l.toArray.size false) && decide (order.len + (l.toArray.size - nh) = l.toArray.size)) = true)
    (hQ : ∀ c a d v w, Q (.panic c) (Act.put a d v) w → Q (.panic c) a w) (hS : S w.drew)
    (h : wpT3 P l.toArray l Q (fun a w => wpList P l.toArray Q (l.drop nh) a w) order S a w.drew) : (Code.region id l.toArray true).wp P Q a w := by
  simp only [Bool.and_eq_true, decide_eq_true_eq] at hB
  obtain ⟨⟨⟨hsel, ht⟩, hc⟩, hlen⟩ := hB
  refine wp_region_any hm (wpAny_of_HL (S := S) (nh := nh) _ _ _ _ ?_)
  have := wpHL_of_tree3 (P := P) (Q := Q) (l := l) rfl hsel ht hQ (l.drop nh) (fun j => by simp [List.getElem?_drop]) (by simp) order S (Array.replicate l.toArray.size false) a w.drew
    ⟨by simp, fun j o _ hj => by rw [getD_replicate_false] at hj; cases hj⟩ hc hS h
  rw [hlen] at this
  exact this
section
variable {l : List Oper} {T : Act → World → Prop} {a : Act} {w : World}
theorem t3_done (h : T a w) : wpT3 P ops l Q T .done S a w := h
theorem t3_q {i : Nat} {r : Ord3} (v : Value) (hgd : (pick l i).guard = none) (hrun : ∀ w', S w' → (execOp a.eval (pick l i)).run P w' = .ok (.value v) w') (h : wpT3 P ops l Q T r S (a.put (pick l i).dst v) w) : wpT3 P ops l Q T (.q i r) S a w :=
  ⟨v, .inl (.inl ⟨by simp [Region.wanted, hgd], hrun⟩), h⟩
theorem t3_g {i : Nat} {r : Ord3} (v : Value) (hw : Region.wanted (pick l i) (yielded ops a.tmps) = true) (hrun : ∀ w', S w' → (execOp a.eval (pick l i)).run P w' = .ok (.value v) w') (h : wpT3 P ops l Q T r S (a.put (pick l i).dst v) w) : wpT3 P ops l Q T (.q i r) S a w :=
  ⟨v, .inl (.inl ⟨hw, hrun⟩), h⟩
theorem t3_no {i : Nat} {r : Ord3} (hw : Region.wanted (pick l i) (yielded ops a.tmps) = false) (h : wpT3 P ops l Q T r S (a.put (pick l i).dst undef) w) : wpT3 P ops l Q T (.q i r) S a w :=
  ⟨undef, .inl (.inr ⟨hw, rfl⟩), h⟩
/-- A call that only answers. -/
theorem t3_call {i : Nat} {r : Ord3} (v : Value) (hgd : (pick l i).guard = none) (f : FuncId) (args : Array Value) (hrun : ∀ w', (execOp a.eval (pick l i)).run P w' = .ok (.enter f args) w')
    (hc : ∀ w', S w' → Calls P f args w' fun e w2 => e = .returned v ∧ w' = w2) (h : wpT3 P ops l Q T r S (a.put (pick l i).dst v) w) : wpT3 P ops l Q T (.q i r) S a w :=
  ⟨v, .inr ⟨by simp [Region.wanted, hgd], f, args, fun w' hS => ⟨hrun w', hc w' hS⟩⟩, h⟩
/-- A run of cells is loaded. -/
theorem t3_load {i : Nat} {r : Ord3} (hgd : (pick l i).guard = none) (ty : TypeId) (x : Operand) (ho : (pick l i).op = .load ty x) (g off : Nat) (cs vs : List Value) (t : TypeId)
    (hx : a.eval x = .pointer (some ⟨g, off, none⟩)) (d : TypeDesc) (hu : P.underlying ty = some d) (hd : d.isRow = true) (hi : (P.info? ty).map (·.size) = some vs.length)
    (hv : (cs.drop off).take vs.length = vs) (hb : ∀ w', S w' → w'.heap[g]? = some (.cells cs.toArray t))
    (h : wpT3 P ops l Q T r S (a.put (pick l i).dst (.agg vs.toArray)) w) : wpT3 P ops l Q T (.q i r) S a w := by
  refine t3_q _ hgd (fun w' hS => ?_) h
  have hr : w'.rangeAt g off vs := by have := range_of_heap (hb w' hS) off vs.length; rwa [hv] at this
  unfold execOp
  simp only [ho, hx, Instr.loadAt, Instr.sureAddr, Sem.run_bind, Sem.run_pure, Result.andThen_ok, run_loadVar_mid w' g off ty vs d hr hu hd hi]
theorem t3_loadG {i : Nat} {r : Ord3} (hw : Region.wanted (pick l i) (yielded ops a.tmps) = true) (ty : TypeId) (x : Operand) (ho : (pick l i).op = .load ty x) (g off : Nat) (cs vs : List Value) (t : TypeId)
    (hx : a.eval x = .pointer (some ⟨g, off, none⟩)) (d : TypeDesc) (hu : P.underlying ty = some d) (hd : d.isRow = true) (hi : (P.info? ty).map (·.size) = some vs.length)
    (hv : (cs.drop off).take vs.length = vs) (hb : ∀ w', S w' → w'.heap[g]? = some (.cells cs.toArray t))
    (h : wpT3 P ops l Q T r S (a.put (pick l i).dst (.agg vs.toArray)) w) : wpT3 P ops l Q T (.q i r) S a w := by
  refine t3_g _ hw (fun w' hS => ?_) h
  have hr : w'.rangeAt g off vs := by have := range_of_heap (hb w' hS) off vs.length; rwa [hv] at this
  unfold execOp
  simp only [ho, hx, Instr.loadAt, Instr.sureAddr, Sem.run_bind, Sem.run_pure, Result.andThen_ok, run_loadVar_mid w' g off ty vs d hr hu hd hi]
theorem t3_one {i : Nat} {r : Ord3} (h : wpList P ops (ActPost Q S (wpT3 P ops l Q T r)) [pick l i] a w) : wpT3 P ops l Q T (.one i r) S a w := h
theorem t3_two {i j : Nat} {r s : Ord3} (h : wpList P ops (ActPost Q S (wpT3 P ops l Q T r)) [pick l i] a w) (h2 : wpList P ops (ActPost Q S (wpT3 P ops l Q T s)) [pick l j] a w) : wpT3 P ops l Q T (.two i r j s) S a w := ⟨h, h2⟩
theorem t3_three {i j k : Nat} {r s t : Ord3} (h : wpList P ops (ActPost Q S (wpT3 P ops l Q T r)) [pick l i] a w) (h2 : wpList P ops (ActPost Q S (wpT3 P ops l Q T s)) [pick l j] a w) (h3 : wpList P ops (ActPost Q S (wpT3 P ops l Q T t)) [pick l k] a w) : wpT3 P ops l Q T (.three i r j s k t) S a w := ⟨h, h2, h3⟩
end
end
end Go.Proofs.YtfgaikacijdodaaGreatDoor
/-
  From a row's list of package-level variables, and the shape of its first world, to what the landed program's calls ask; a world for the witness.
-/
namespace Go.Proofs.YtfgaikacijdodaaGreatDoor
set_option linter.unusedVariables false
set_option linter.unusedSimpArgs false
set_option maxRecDepth 100000
open Go.ChangeShapes Go.WideShapes Go.ChangeAt Go.RowKit
open Go.ChangeMaps (open_string shut_string)

theorem own_none : ownKnob Tryz.prog.godebug = none := by kernel_rfl
theorem tens_named : Tryz.prog.globalNamed "internal/strconv.uint64pow10" = some 3 := by kernel_rfl
theorem tens_type : (Tryz.prog.globals[3]?).map (·.type) = some 112 := by kernel_rfl
theorem tens_cells : Tryz.prog.cellsOf 112 = 20 := by kernel_rfl
theorem u64_cells : Tryz.prog.cellsOf 79 = 1 := by kernel_rfl
/-- The variables that every row of this seat lists. -/
def laidAll : List (String × DataW Unit) := [("math/bits.deBruijn32tab", Rows.laid_math_bits_deBruijn32tab), ("math/bits.deBruijn64tab", Rows.laid_math_bits_deBruijn64tab), ("internal/strconv.uint64pow10", Rows.laid_internal_strconv_uint64pow10), ("unicode/utf8.acceptRanges", Rows.laid_unicode_utf8_acceptRanges), ("strconv.ErrRange", Rows.laid_strconv_ErrRange), ("strconv.ErrSyntax", Rows.laid_strconv_ErrSyntax), ("unicode/utf8.first", Rows.laid_unicode_utf8_first)]
theorem star_err : "*" ++ "errors.errorString" = "*errors.errorString" := by decide
theorem row_err (u : TypeId) (h : Tryz.prog.typeName? 3 u = some "*errors.errorString") : u = 116 :=
  typeName_ptr_named (nm := "errors.errorString") (by rw [star_err]; kernel_rfl) (by kernel_rfl) (by decide) u (by rw [star_err]; exact h)
theorem err_cells : Tryz.prog.cellsOf 118 = 1 := by kernel_rfl
theorem str_cells : Tryz.prog.cellsOf 9 = 1 := by kernel_rfl
theorem rang_named : Tryz.prog.globalNamed "strconv.ErrRange" = some 2 := by kernel_rfl
theorem rang_type : (Tryz.prog.globals[2]?).map (·.type) = some 81 := by kernel_rfl
theorem synt_named : Tryz.prog.globalNamed "strconv.ErrSyntax" = some 1 := by kernel_rfl
theorem synt_type : (Tryz.prog.globals[1]?).map (·.type) = some 81 := by kernel_rfl
theorem vars_of {W : World} (h : laidMetH Tryz.prog laidAll W) (hsh : W.ShapedOpen Tryz.prog) : VarsOk W where
  most := Tryz.laysM145.s1_3 W hsh
  tens := by
    have h1 : laidMet Tryz.prog laidAll W := h
    exact Lib.tabIs_of_head (rest := [("unicode/utf8.acceptRanges", Rows.laid_unicode_utf8_acceptRanges), ("strconv.ErrRange", Rows.laid_strconv_ErrRange), ("strconv.ErrSyntax", Rows.laid_strconv_ErrSyntax), ("unicode/utf8.first", Rows.laid_unicode_utf8_first)]) tens_named tens_type Tryz.underlying112 Tryz.underlying79 u64_cells tens_cells h1.tail.tail
  synt := by
    have h1 : laidMet Tryz.prog laidAll W := h
    obtain ⟨a, s, hv, _⟩ := laid_sentinel h1.tail.tail.tail.tail.tail synt_named synt_type Tryz.underlying81 row_err Tryz.underlying116 Tryz.underlying118 rfl rfl Tryz.underlying9 err_cells str_cells
    exact ⟨_, by rw [World.var?_cell synt_named hv 0]; rfl, .inr ⟨_, _, rfl⟩⟩
  rang := by
    have h1 : laidMet Tryz.prog laidAll W := h
    obtain ⟨a, s, hv, _⟩ := laid_sentinel h1.tail.tail.tail.tail rang_named rang_type Tryz.underlying81 row_err Tryz.underlying116 Tryz.underlying118 rfl rfl Tryz.underlying9 err_cells str_cells
    exact ⟨_, by rw [World.var?_cell rang_named hv 0]; rfl, .inr ⟨_, _, rfl⟩⟩
/-! ### a world that holds them -/
def dat1 : DataW Unit → List Value
  | .lit (.int k n) => [.int k n]
  | _ => []
def dat2 : DataW Unit → List Value
  | .agg ds => ds.flatMap dat1
  | _ => []
def dat3 : DataW Unit → List Value
  | .agg ds => ds.flatMap fun d => dat1 d ++ dat2 d
  | _ => []
def laying (d : DataW Unit) : Obj → Obj
  | .cells _ t frozen => .cells (dat3 d).toArray t frozen
  | o => o
def pointing (n : Nat) : Obj → Obj
  | .cells _ t frozen => .cells #[.iface 116 (.pointer (some ⟨n, 0, none⟩))] t frozen
  | o => o
noncomputable def low (os : Os) : Nat := (World.holding Tryz.prog os ⟨#[], #[], []⟩).heap.size
noncomputable def heldW (os : Os) : World := World.holding Tryz.prog os ⟨#[.cells #[.string ⟨#[118, 97, 108, 117, 101, 32, 111, 117, 116, 32, 111, 102, 32, 114, 97, 110, 103, 101]⟩] 118, .cells #[.string ⟨#[105, 110, 118, 97, 108, 105, 100, 32, 115, 121, 110, 116, 97, 120]⟩] 118], #[], []⟩
noncomputable def laidWorld (os : Os) : World :=
  { heldW os with heap := ((((((((heldW os).heap.modify 6 (laying Rows.laid_math_bits_deBruijn32tab)).modify 7 (laying Rows.laid_math_bits_deBruijn64tab)).modify 3 (laying Rows.laid_internal_strconv_uint64pow10)).modify 5 (laying Rows.laid_unicode_utf8_acceptRanges)).modify 2 (pointing (low os))).modify 1 (pointing (low os + 1))).modify 4 (laying Rows.laid_unicode_utf8_first)) }
/-- What the form's reach says of a string that came in. -/
theorem string_reach {P : Program} {H : Type} {ts : List TypeId} {ds : List (DataW H)} {j : Nat} {t : TypeId} {s : ByteArray} (h : (DataW.weightsEach P ts ds).all (· ≤ reachBytes) = true) (ht : ts[j]? = some t) (hd : ds[j]? = some (.lit (.string s.data.toList))) : s.size ≤ 140737488351232 := by
  have h1 := sized_string h ht hd
  have h2 := reachBytes_lt
  have e : s.data.toList.length = s.size := by simp
  have h3 : reachBytes ≤ 140737488351232 := by decide
  omega
end Go.Proofs.YtfgaikacijdodaaGreatDoor
