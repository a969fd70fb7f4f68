/-
  Package disk: survive.
-/
import Derived.Test.YtelboocnenaicaaDisk5
namespace Go.Proofs.Ytelboocnenaicaa
set_option linter.unusedVariables false
set_option linter.unusedSimpArgs false
set_option maxRecDepth 20000
open Go.RowKit

def surv (F : List (List Int)) (q : Nat × List Int) (kept : Int) : List (List Int) :=
  if kept = 2 then F.set q.1 q.2 else if kept = 1 then F.set q.1 (q.2.take 16 ++ (F.getD q.1 []).drop 16) else F
theorem wr_append (cs : List Value) (off : Nat) (a b : List Value) (h : (cs.drop (off + a.length)).take b.length = b) : wr cs off (a ++ b) = wr cs off a := by
  unfold wr
  rw [List.length_append, List.append_assoc, List.append_assoc, List.append_assoc]
  congr 2
  have : cs.drop (off + a.length) = (cs.drop (off + a.length)).take b.length ++ (cs.drop (off + a.length)).drop b.length := (List.take_append_drop _ _).symm
  rw [h, List.drop_drop] at this
  rw [this, Nat.add_assoc]
theorem secs_half (i : Nat) (x : List Int) (hx : x.length = 32) (F : List (List Int)) (sf : List Value) (h : ∀ y ∈ F, y.length = 32) (hi : i < F.length) :
    wr (secs F ++ sf) (i * 32) (bv (x.take 16)) = secs (F.set i (x.take 16 ++ (F.getD i []).drop 16)) ++ sf := by
  have hg : F.getD i [] = F[i] := by simp [List.getD, hi]
  have h32 := h F[i] (List.getElem_mem hi)
  have hlen := length_secs F h
  rw [hg, ← secs_set i (x.take 16 ++ (F[i]).drop 16) (by simp; omega) F sf h hi, bv_append, wr_append]
  simp only [length_bv, List.length_take, hx, List.length_drop, h32]
  have h1 := secs_take i F h hi
  rw [List.drop_append_of_le_length (by omega), List.take_append_of_le_length (by simp; omega)]
  have h2 : ((secs F).drop (i * 32 + 16)).take 16 = (((secs F).drop (i * 32)).take 32).drop 16 := by
    rw [List.drop_take, List.drop_drop]
  rw [show i * 32 + min 16 32 = i * 32 + 16 by omega, show 32 - 16 = 16 by omega, h2, h1, bv_drop]
theorem length_surv (F : List (List Int)) (q : Nat × List Int) (k : Int) : (surv F q k).length = F.length := by
  unfold surv; split
  · simp
  · split <;> simp
theorem row_surv {F : List (List Int)} {q : Nat × List Int} (k : Int) (h : ∀ y ∈ F, y.length = 32) (hq : q.2.length = 32) (hi : q.1 < F.length) : ∀ y ∈ surv F q k, y.length = 32 := by
  intro y hy
  unfold surv at hy
  split at hy
  · rcases List.mem_or_eq_of_mem_set hy with hy | rfl
    · exact h y hy
    · exact hq
  · split at hy
    · rcases List.mem_or_eq_of_mem_set hy with hy | rfl
      · exact h y hy
      · have : F.getD q.1 [] = F[q.1] := by simp [List.getD, hi]
        rw [this]
        have := h _ (List.getElem_mem hi)
        simp; omega
    · exact h y hy
theorem wcell_half (i : Nat) (x : List Int) (hx : x.length = 32) : ∀ j u, (bv (x.take 16))[j]? = some u → (wcell (i, x))[1 + j]? = some u := by
  intro j u hu
  have hj : j < 16 := by have := (List.getElem?_eq_some_iff.1 hu).1; simp only [length_bv, List.length_take] at this; omega
  rw [Nat.add_comm 1 j]
  simp only [wcell, List.getElem?_cons_succ]
  rw [← bv_take, List.getElem?_take_of_lt hj] at hu
  exact hu
def JustOwn (w0 : World) (L : Blks) (v : Value) (e : Ending) (w' : World) : Prop := e = .returned v ∧ Own w0 w' L
section
variable {w0 w : World} {s : DSt} {R : Blks}
set_option maxHeartbeats 2000000 in
theorem survive_c {F : List (List Int)} (hF : ∀ y ∈ F, y.length = 32) (hFn : F.length = s.n) (hs1 : s.n ≤ 1024) {bd bf bl cf cl : Nat} {sf : List Value} {pv : Value} (q : Nat × List Int) (hq1 : q.1 < s.n) (hq2 : q.2.length = 32) (kept : Int)
    (hO : Own w0 w ((bd, .cells (dcells bf bl cf cl pv s) 45) :: (bf, .cells (List.toArray (secs F ++ sf)) 48) :: R)) :
    Calls Try.prog 21 #[.pointer (some ⟨bd, 0, none⟩), .agg (wcell q).toArray, .int .i64 kept] w
      (JustOwn w0 ((bd, .cells (dcells bf bl cf cl pv s) 45) :: (bf, .cells (List.toArray (secs (surv F q kept) ++ sf)) 48) :: R) (.tuple #[])) := by
  obtain ⟨at_, x⟩ := q
  simp only at hq1 hq2
  have hlen := length_secs F hF
  have HO := Lib.hid hO
  have HX := Lib.hid hq2
  have HF := Lib.hid hF
  have hat : (at_ : Int) < s.n := by omega
  have hat0 : (0 : Int) ≤ at_ := by omega
  have HFN := Lib.hid hFn
  have HLEN := Lib.hid hlen
  clear hO hq2 hF hlen hFn
  by_cases h2 : kept = 2
  · subst h2
    have e1 : surv F (at_, x) 2 = F.set at_ x := by simp [surv]
    rw [e1]
    clear e1
    go_enter Try.func21, Try.ntmps21
    go_wp2_with (refine wl_box rfl _ _ rfl HO.out (wcell (at_, x)).toArray (by rfl) ?_; intro g w1 hO1; have HO1 := Lib.hid hO1; clear hO1 HO)
    have hb0 : w1.cell? ⟨bd, 0, none⟩ = some (.slice (some ⟨bf, 0, none⟩) s.n cf) := HO1.out.cell (.tail _ (.head _)) 0
    have hg0 : w1.cell? ⟨g, 0, none⟩ = some (.int .i64 at_) := HO1.out.cell (.head _) 0
    refine wp_region_lin (fun w' => w' = w1.drew) 9 [(0, true), (1, true), (2, true), (3, true), (4, true), (5, true), (6, true), (7, true), (8, true)] (by kernel_rfl) (by kernel_rfl) (fun _ _ d _ _ h => by cases d <;> exact h) rfl ?_
    simp only [List.map_cons, List.map_nil, pick_zero, pick_succ, List.drop_succ_cons, List.drop_zero]
    iterate 7 (refine lin_q ?_ rfl ?_ ?_; rotate_left 1; (focus (rintro w' rfl; go_simp; try with_reducible rfl)); simp only [Act.put, List.setIfInBounds_toArray, List.set_cons_zero, List.set_cons_succ])
    refine lin_load rfl _ _ rfl g 1 (wcell (at_, x)) (bv x) 50 (by rfl) _ Try.underlying48 rfl (sector_size _ HX.out) (wcell_drop _ _) (fun w' e => by rw [e]; exact HO1.out.heap (.head _)) ?_
    simp only [Act.put, List.setIfInBounds_toArray, List.set_cons_zero, List.set_cons_succ]
    iterate 1 (refine lin_q ?_ rfl ?_ ?_; rotate_left 1; (focus (rintro w' rfl; go_simp; try with_reducible rfl)); simp only [Act.put, List.setIfInBounds_toArray, List.set_cons_zero, List.set_cons_succ])
    refine lin_nil ?_
    refine wl_store rfl _ _ _ rfl HO1.out.drew 2 bf (at_ * 32) (secs F ++ sf) (bv x) _ rfl (by rfl) (by rfl) (sector_size _ HX.out) (one_bv _) (by simp only [length_bv, HX.out, List.length_append, HLEN.out, HFN.out]; omega) ?_
    intro w4 hO4
    rw [secs_set at_ x HX.out _ sf HF.out (by rw [HFN.out]; omega)] at hO4
    have HO5 := Lib.hid hO4.tail
    clear hO4 HO1 hb0 hg0
    go_wp2
    go_end0
    exact ⟨rfl, HO5.out⟩
  · by_cases h1 : kept = 1
    · subst h1
      have e1 : surv F (at_, x) 1 = F.set at_ (x.take 16 ++ (F.getD at_ []).drop 16) := by simp [surv]
      rw [e1]
      clear e1 h2
      go_enter Try.func21, Try.ntmps21
      go_wp2_with (refine wl_box rfl _ _ rfl HO.out (wcell (at_, x)).toArray (by rfl) ?_; intro g w1 hO1; have HO1 := Lib.hid hO1; clear hO1 HO)
      have hb0 : w1.cell? ⟨bd, 0, none⟩ = some (.slice (some ⟨bf, 0, none⟩) s.n cf) := HO1.out.cell (.tail _ (.head _)) 0
      have hg0 : w1.cell? ⟨g, 0, none⟩ = some (.int .i64 at_) := HO1.out.cell (.head _) 0
      refine wp_region_lin (fun w' => w' = w1.drew) 10 [(0, true), (1, true), (2, true), (3, true), (4, true), (5, true), (6, true), (7, true), (8, true), (9, true)] (by kernel_rfl) (by kernel_rfl) (fun _ _ d _ _ h => by cases d <;> exact h) rfl ?_
      simp only [List.map_cons, List.map_nil, pick_zero, pick_succ, List.drop_succ_cons, List.drop_zero]
      iterate 10 (refine lin_q ?_ rfl ?_ ?_; rotate_left 1; (focus (rintro w' rfl; go_simp; try with_reducible rfl)); simp only [Act.put, List.setIfInBounds_toArray, List.set_cons_zero, List.set_cons_succ])
      refine lin_nil ?_
      refine wl_copy rfl _ _ _ _ rfl _ Try.underlying27 (by kernel_rfl) HO1.out.drew 2 bf (at_ * 32) (secs F ++ sf) (bv (x.take 16)) _ rfl 16 32 ⟨g, 1, none⟩ 16 32 (by rfl) (by rfl) (by simp [HX.out]) ?_ (by simp only [length_bv, List.length_take, HX.out, List.length_append, HLEN.out, HFN.out]; omega) (one_bv _) ?_
      · intro j u hu
        rw [Addr.add_mid, HO1.out.drew.cell (.head _)]
        simpa using wcell_half at_ x HX.out j u hu
      intro w4 hO4
      rw [secs_half at_ x HX.out F sf HF.out (by rw [HFN.out]; omega)] at hO4
      have HO5 := Lib.hid hO4.tail
      clear hO4 HO1 hb0 hg0
      go_wp2
      go_end0
      exact ⟨rfl, HO5.out⟩
    · have e1 : surv F (at_, x) kept = F := by simp [surv, h1, h2]
      rw [e1]
      have h1' : (kept == 1) = false := by simp [h1]
      have h2' : (kept == 2) = false := by simp [h2]
      clear e1 h1 h2
      go_enter Try.func21, Try.ntmps21
      go_wp2_with (refine wl_box rfl _ _ rfl HO.out (wcell (at_, x)).toArray (by rfl) ?_; intro g w1 hO1; have HO1 := Lib.hid hO1; clear hO1 HO)
      go_end0
      exact ⟨rfl, HO1.out.tail⟩
end
end Go.Proofs.Ytelboocnenaicaa
