/-
  Package disk: Crash.
-/
import Derived.Test.YtelboocnenaicaaDisk6
namespace Go.Proofs.Ytelboocnenaicaa
set_option linter.unusedVariables false
set_option linter.unusedSimpArgs false
set_option maxRecDepth 20000
open Go.RowKit

/-- The flushed sectors behind a crash. -/
def survAll : List (List Int) → List (Nat × List Int) → List Int → List (List Int)
  | F, [], _ => F
  | F, _ :: _, [] => F
  | F, q :: p, k :: ks => survAll (surv F q k) p ks
theorem survAll_nil (F : List (List Int)) (p : List (Nat × List Int)) : survAll F p [] = F := by cases p <;> rfl
theorem survAll_take (p : List (Nat × List Int)) : ∀ (F : List (List Int)) (ks : List Int) (k : Nat) (hk : k < p.length),
    survAll F (p.take (k + 1)) ks = if h : k < ks.length then surv (survAll F (p.take k) ks) p[k] ks[k] else survAll F (p.take k) ks := by
  induction p with
  | nil => intro F ks k hk; simp at hk
  | cons q p ih =>
    intro F ks k hk
    cases ks with
    | nil => simp [survAll_nil]
    | cons x ks =>
      cases k with
      | zero => simp [survAll]
      | succ k =>
        simp only [List.take_succ_cons, survAll]
        rw [ih (surv F q x) ks k (by simpa using hk)]
        simp
theorem length_survAll : ∀ (p : List (Nat × List Int)) (F : List (List Int)) (ks : List Int), (survAll F p ks).length = F.length
  | [], _, _ => rfl
  | _ :: _, _, [] => rfl
  | q :: p, F, k :: ks => by rw [survAll, length_survAll p, length_surv]
theorem row_survAll : ∀ (p : List (Nat × List Int)) (F : List (List Int)) (ks : List Int), (∀ y ∈ F, y.length = 32) → (∀ q ∈ p, q.1 < F.length ∧ q.2.length = 32) → ∀ y ∈ survAll F p ks, y.length = 32
  | [], _, _, h, _ => h
  | _ :: _, _, [], h, _ => h
  | q :: p, F, k :: ks, h, hp => by
    rw [survAll]
    refine row_survAll p _ ks (row_surv k h (hp q (.head _)).2 (hp q (.head _)).1) (fun q' hq' => ?_)
    rw [length_surv]
    exact hp q' (.tail _ hq')
/-- Where no pending write lies a sector is as it was flushed. -/
theorem survAll_other : ∀ (p : List (Nat × List Int)) (F : List (List Int)) (ks : List Int) (j : Nat), (∀ q ∈ p, q.1 ≠ j) → (survAll F p ks)[j]? = F[j]?
  | [], _, _, _, _ => rfl
  | _ :: _, _, [], _, _ => rfl
  | q :: p, F, k :: ks, j, hp => by
    rw [survAll, survAll_other p _ ks j (fun q' hq' => hp q' (.tail _ hq'))]
    have hne := hp q (.head _)
    unfold surv
    split
    · rw [List.getElem?_set_ne hne]
    · split
      · rw [List.getElem?_set_ne hne]
      · rfl
theorem over_other : ∀ (p : List (Nat × List Int)) (F : List (List Int)) (j : Nat), (∀ q ∈ p, q.1 ≠ j) → (over F p)[j]? = F[j]?
  | [], _, _, _ => rfl
  | q :: p, F, j, hp => by
    have := over_other p (F.set q.1 q.2) j (fun q' hq' => hp q' (.tail _ hq'))
    simp only [over, List.foldl_cons] at *
    rw [this, List.getElem?_set_ne (hp q (.head _))]
/-- The second loop: each sector with a pending write is read anew. -/
def fresh (F : List (List Int)) (la : List (List Int)) (p : List (Nat × List Int)) : List (List Int) := p.foldl (fun acc q => acc.set q.1 (F.getD q.1 [])) la
theorem length_fresh (F : List (List Int)) : ∀ (p : List (Nat × List Int)) (la : List (List Int)), (fresh F la p).length = la.length
  | [], _ => rfl
  | q :: p, la => by have := length_fresh F p (la.set q.1 (F.getD q.1 [])); simp only [fresh, List.foldl_cons] at *; rw [this]; simp
theorem fresh_get (F : List (List Int)) : ∀ (p : List (Nat × List Int)) (la : List (List Int)) (j : Nat), la.length = F.length → (∀ q ∈ p, q.1 < F.length) → j < F.length →
    (fresh F la p)[j]? = if (∃ q ∈ p, q.1 = j) then F[j]? else la[j]?
  | [], la, j, _, _, _ => by simp [fresh]
  | q :: p, la, j, hl, hp, hj => by
    have ih := fresh_get F p (la.set q.1 (F.getD q.1 [])) j (by simpa using hl) (fun q' hq' => hp q' (.tail _ hq')) hj
    simp only [fresh, List.foldl_cons] at *
    rw [ih]
    by_cases h1 : ∃ q' ∈ p, q'.1 = j
    · rw [if_pos h1, if_pos]
      obtain ⟨q', h, e⟩ := h1
      exact ⟨q', .tail _ h, e⟩
    · rw [if_neg h1]
      by_cases h2 : q.1 = j
      · rw [if_pos ⟨q, .head _, h2⟩]
        subst h2
        rw [List.getElem?_set_self (by omega)]
        simp [List.getD, hj]
      · rw [if_neg, List.getElem?_set_ne h2]
        rintro ⟨q', h, e⟩
        rcases List.mem_cons.1 h with rfl | h
        · exact h2 e
        · exact h1 ⟨q', h, e⟩
theorem fresh_all (fl : List (List Int)) (p : List (Nat × List Int)) (ks : List Int) (hp : ∀ q ∈ p, q.1 < fl.length) : fresh (survAll fl p ks) (over fl p) p = survAll fl p ks := by
  have h1 := length_survAll p fl ks
  have h2 := length_over fl p
  apply List.ext_getElem?
  intro j
  by_cases hj : j < fl.length
  · rw [fresh_get _ p _ j (by omega) (fun q hq => by rw [h1]; exact hp q hq) (by omega)]
    split
    · rfl
    · rename_i hn
      have hn' : ∀ q ∈ p, q.1 ≠ j := fun q hq e => hn ⟨q, hq, e⟩
      rw [over_other p fl j hn', survAll_other p fl ks j hn']
  · rw [List.getElem?_eq_none (by rw [length_fresh]; omega), List.getElem?_eq_none (by omega)]
theorem fresh_take (F la : List (List Int)) (p : List (Nat × List Int)) (k : Nat) (hk : k < p.length) : fresh F la (p.take (k + 1)) = (fresh F la (p.take k)).set p[k].1 (F.getD p[k].1 []) := by
  rw [List.take_succ_eq_append_getElem hk]; simp only [fresh, List.foldl_append, List.foldl_cons, List.foldl_nil]
theorem row_fresh (F : List (List Int)) (hF : ∀ y ∈ F, y.length = 32) : ∀ (p : List (Nat × List Int)) (la : List (List Int)), (∀ y ∈ la, y.length = 32) → (∀ q ∈ p, q.1 < F.length) → ∀ y ∈ fresh F la p, y.length = 32
  | [], _, h, _ => h
  | q :: p, la, h, hp => by
    have := row_fresh F hF p (la.set q.1 (F.getD q.1 [])) (fun y hy => by
      rcases List.mem_or_eq_of_mem_set hy with hy | rfl
      · exact h y hy
      · have hq := hp q (.head _)
        simp only [List.getD, List.getElem?_eq_getElem hq, Option.getD_some]
        exact hF _ (List.getElem_mem hq)) (fun q' hq' => hp q' (.tail _ hq'))
    simpa only [fresh, List.foldl_cons] using this
def DSt.crash (s : DSt) (ks : List Int) : DSt := { fl := survAll s.fl s.pend ks, pend := [], left := -1, down := false }
section
variable {w0 w : World} {d : Value} {s : DSt} {L R : Blks}
theorem crash_fin (ok : s.Ok) (ks : List Int) {bd bf bl cf cl : Nat} {sf sl : List Value} {pv : Value} {a : Blks} (hcf : s.n ≤ cf) (hcl : s.n ≤ cl)
    (hO : Own w0 w ((bd, .cells ((((dcells bf bl cf cl pv s).setIfInBounds 2 (.slice none 0 0)).setIfInBounds 3 (.int .i64 (-1))).setIfInBounds 4 (.bool false)) 45) :: (bf, .cells (List.toArray (secs (survAll s.fl s.pend ks) ++ sf)) 48) :: (bl, .cells (List.toArray (secs (survAll s.fl s.pend ks) ++ sl)) 48) :: (a ++ R))) :
    ∃ L, IsDisk (.pointer (some ⟨bd, 0, none⟩)) (s.crash ks) L ∧ Own w0 w (L ++ R) := by
  have en : (s.crash ks).n = s.n := length_survAll _ _ _
  refine ⟨_, ⟨⟨by rw [en]; exact ok.n, row_survAll _ _ _ ok.row ok.prow, by simp [DSt.crash], by simp [DSt.crash], by simp [DSt.crash]⟩, bd, bf, bl, cf, cl, sf, sl, .slice none 0 0, [], rfl, ⟨rfl, .inl ⟨rfl, rfl, rfl⟩⟩, by rw [en]; exact hcf, by rw [en]; exact hcl, rfl⟩, ?_⟩
  have h : Own w0 w ([(bd, .cells ((((dcells bf bl cf cl pv s).setIfInBounds 2 (.slice none 0 0)).setIfInBounds 3 (.int .i64 (-1))).setIfInBounds 4 (.bool false)) 45), (bf, .cells (List.toArray (secs (survAll s.fl s.pend ks) ++ sf)) 48), (bl, .cells (List.toArray (secs (survAll s.fl s.pend ks) ++ sl)) 48)] ++ (a ++ R)) := hO
  have h2 := h.rot.right
  have e2 : dcells bf bl cf cl (.slice none 0 0) (s.crash ks) = (((dcells bf bl cf cl pv s).setIfInBounds 2 (.slice none 0 0)).setIfInBounds 3 (.int .i64 (-1))).setIfInBounds 4 (.bool false) := by
    simp [dcells, en]; simp [DSt.crash]
  have e3 : (s.crash ks).la = survAll s.fl s.pend ks := rfl
  rw [e2, e3]
  exact h2
set_option maxHeartbeats 4000000 in
theorem crash_c (hd : IsDisk d s L) (hO : Own w0 w (L ++ R)) (v : Value) (ks : List Int) (hks : RdV w0 R v (iv ks)) : Calls Try.prog 12 #[d, v] w (HasDisk w0 R d (s.crash ks) (.tuple #[])) := by
  obtain ⟨A, n, c, rfl, hkn, hnc, hA⟩ := hks w L hO
  have hkl : ks.length = n := by simpa [iv] using hkn
  obtain ⟨ok, bd, bf, bl, cf, cl, sf, sl, pv, pb, rfl, hp, hcf, hcl, rfl⟩ := hd
  have hc2 : w.cell? ⟨bd, 2, none⟩ = some pv := hO.cell (.head _) 2
  have HO := Lib.hid hO
  have HK := Lib.hid ok
  have HKS := Lib.hid hks
  have HKL := Lib.hid hkl
  clear hks hkl hkn hA
  have hplen := ok.plen
  have hn1024 := ok.n
  rcases hp.2 with ⟨rfl, hp0, rfl⟩ | ⟨bp, cap, sp, rfl, rfl, hpl, hpc, hpm⟩
  · have hp1 : s.pend = [] := List.eq_nil_of_length_eq_zero hp0
    have hla : s.la = survAll s.fl s.pend ks := by simp [DSt.la, hp1, over, survAll]
    have hfl : s.fl = survAll s.fl s.pend ks := by simp [hp1, survAll]
    have hO' : Own w0 w ((bd, .cells (dcells bf bl cf cl (.slice none 0 0) s) 45) :: (bf, .cells (List.toArray (secs (survAll s.fl s.pend ks) ++ sf)) 48) :: (bl, .cells (List.toArray (secs (survAll s.fl s.pend ks) ++ sl)) 48) :: R) := by
      rw [← hfl]; rw [hla, ← hfl] at hO; exact hO
    have hc3 : w.cell? ⟨bd, 3, none⟩ = some (.int .i64 s.left) := hO.cell (.head _) 3
    have hc4 : w.cell? ⟨bd, 4, none⟩ = some (.bool s.down) := hO.cell (.head _) 4
    have hf2 : w.frozen? ⟨bd, 2, none⟩ = false := hO.frozen (.head _) 2
    have hf3 : w.frozen? ⟨bd, 3, none⟩ = false := hO.frozen (.head _) 3
    have hf4 : w.frozen? ⟨bd, 4, none⟩ = false := hO.frozen (.head _) 4
    have HO' := Lib.hid hO'
    clear hO hp hp0 hp1 hla hfl ok hO' HO HKS
    go_enter Try.func12, Try.ntmps12
    go_wp2
    go_loopw [13] (fun t w' => t = .int .i64 0 ∧ w' = w) (fun _ _ => 0)
    case atStart => exact ⟨rfl, rfl⟩
    case round =>
      obtain ⟨rfl, rfl⟩ := hrel
      go_wp2
      go_loopw [35] (fun t w' => t = .int .i64 0 ∧ w' = wr) (fun _ _ => 0)
      case atStart => exact ⟨rfl, rfl⟩
      case round =>
        obtain ⟨rfl, rfl⟩ := hrel
        go_wp2
        go_end0
        exact ⟨rfl, crash_fin HK.out ks (a := []) hcf hcl (((HO'.out.setAt 0 rfl 2 (.slice none 0 0)).setAt 0 rfl 3 (.int .i64 (-1))).setAt 0 rfl 4 (.bool false))⟩
  · have hrw : ∀ q ∈ s.pend, q.2.length = 32 := fun q hq => (ok.prow q hq).2
    have HRW := Lib.hid hrw
    have hpin : ∀ q ∈ s.pend, q.1 < s.fl.length := fun q hq => (ok.prow q hq).1
    have HPIN := Lib.hid hpin
    clear hO hp hrw ok hpl hpc hpm hpin
    go_enter Try.func12, Try.ntmps12
    go_wp2
    go_loopw [13] (fun t w' => ∃ k : Nat, k ≤ s.pend.length ∧ t = .int .i64 k ∧ Hid (Own w0 w' ((bd, .cells (dcells bf bl cf cl (.slice (some ⟨bp, 0, none⟩) s.pend.length cap) s) 45) :: (bf, .cells (List.toArray (secs (survAll s.fl (s.pend.take k) ks) ++ sf)) 48) :: (bl, .cells (List.toArray (secs (s.la) ++ sl)) 48) :: (bp, .cells (List.toArray (pcells s.pend ++ sp)) 50) :: R))) (fun t _ => s.pend.length - (intOf t).toNat)
    case atStart => exact ⟨0, Nat.zero_le _, rfl, HO.out⟩
    case round =>
      obtain ⟨k, hk, rfl, HO1⟩ := hrel
      clear HO hc2
      by_cases hlt : k < s.pend.length
      · have hq := HRW.out _ (List.getElem_mem hlt)
        have hprow := HK.out.prow _ (List.getElem_mem hlt)
        have HLD := Lib.hid (pend_load s.pend sp HRW.out k hlt)
        generalize hqe : s.pend[k] = q at hq hprow HLD
        have HQ := Lib.hid hqe
        clear hqe
        obtain ⟨at_, x⟩ := q
        simp only at hq hprow
        have hatn := hprow.1
        have hat : (at_ : Int) < s.n := by omega
        have hat0 : (0 : Int) ≤ at_ := by omega
        have HX := Lib.hid hq
        clear hq hprow
        have hFr := Lib.hid (row_survAll (s.pend.take k) s.fl ks HK.out.row (fun q hq => HK.out.prow q (List.mem_of_mem_take hq)))
        have hFl := Lib.hid (length_survAll (s.pend.take k) s.fl ks)
        have HT := Lib.hid (survAll_take s.pend s.fl ks k hlt)
        by_cases hkn : k < n
        · obtain ⟨A', n', c', e, hn', _, hA⟩ := HKS.out wr [_, _, _, _] HO1.out
          cases e
          obtain ⟨ad, rfl, _⟩ := hA (by omega)
          clear hn' hA
          have hkn' : (k : Int) < n := by omega
          go_wp2_with (first | (refine wl_load rfl _ _ rfl bp (k * 33) (pcells s.pend ++ sp) (wcell (at_, x)) 50 (HO1.out.heap (.tail _ (.tail _ (.tail _ (.head _))))) (by rfl) _ Try.underlying50 rfl (write_size _ HX.out) HLD.out ?_) | (refine wl_alloc rfl _ rfl HO1.out _ (alloc_write _) ?_; intro g w2 hO2; have HO2 := Lib.hid hO2; clear hO2) | (refine wl_store rfl _ _ _ rfl HO2.out 0 g 0 (wcell (0, zsec)) (wcell (at_, x)) _ rfl (by rfl) (by rfl) (write_size _ HX.out) (one_wcell _) (by rw [length_wcell, length_wcell, HX.out]; exact Nat.le_refl _) ?_; intro w3 hO3; rw [wr_all (wcell (0, zsec)) (wcell (at_, x)) (by rw [length_wcell, length_wcell, HX.out]; rfl)] at hO3; have HO3 := Lib.hid hO3; clear hO3 HO2))
          have hO3 : Own w0 w3 ((g, .cells (wcell (at_, x)).toArray 50) :: (bd, .cells (dcells bf bl cf cl (.slice (some ⟨bp, 0, none⟩) s.pend.length cap) s) 45) :: (bf, .cells (List.toArray (secs (survAll s.fl (s.pend.take k) ks) ++ sf)) 48) :: (bl, .cells (List.toArray (secs (s.la) ++ sl)) 48) :: (bp, .cells (List.toArray (pcells s.pend ++ sp)) 50) :: R) := HO3.out
          clear HO3 HO1
          have hkc : w3.cell? (ad.add k) = some (.int .i64 (ks[k]'(by rw [HKL.out]; exact hkn))) := HKS.out.src (L' := [_, _, _, _, _]) hO3 k _ (by simp [iv, HKL.out, hkn])
          have HO3 := Lib.hid hO3
          clear hO3
          refine wp_region_lin (fun w' => w' = w3.drew) 6 [(0, true), (1, true), (2, true), (3, true), (4, true), (5, true)] (by kernel_rfl) (by kernel_rfl) (fun _ _ d _ _ h => by cases d <;> exact h) rfl ?_
          simp only [List.map_cons, List.map_nil, pick_zero, pick_succ, List.drop_succ_cons, List.drop_zero]
          iterate 1 (refine lin_q ?_ rfl ?_ ?_; rotate_left 1; (focus (rintro w' rfl; go_simp; try with_reducible rfl)); simp only [Act.put, List.setIfInBounds_toArray, List.set_cons_zero, List.set_cons_succ])
          refine lin_load rfl _ _ rfl g 0 (wcell (at_, x)) (wcell (at_, x)) 50 (by rfl) _ Try.underlying50 rfl (write_size _ HX.out) (by rw [List.drop_zero, List.take_length]) (fun w' e => by rw [e]; exact HO3.out.heap (.head _)) ?_
          simp only [Act.put, List.setIfInBounds_toArray, List.set_cons_zero, List.set_cons_succ]
          iterate 4 (refine lin_q ?_ rfl ?_ ?_; rotate_left 1; (focus (rintro w' rfl; go_simp; try with_reducible rfl)); simp only [Act.put, List.setIfInBounds_toArray, List.set_cons_zero, List.set_cons_succ])
          refine lin_nil ?_
          go_wp2_with (go_at_call 21; refine (survive_c hFr.out hFl.out hn1024 (at_, x) hatn HX.out _ HO3.out.drew.tail).mono ?_; rintro e w5 ⟨rfl, hO5⟩; have HO5 := Lib.hid hO5; clear hO5)
          have hfin : survAll s.fl (s.pend.take (k + 1)) ks = surv (survAll s.fl (s.pend.take k) ks) (at_, x) (ks[k]'(by rw [HKL.out]; exact hkn)) := by
            rw [HT.out, dif_pos (by rw [HKL.out]; exact hkn), HQ.out]
          have hO6 := HO5.out
          rw [← hfin] at hO6
          have HO6 := Lib.hid hO6
          clear hO6 HO5 hfin
          go_roundw
          case rel => exact ⟨k + 1, by omega, by go_num, HO6.out⟩
          case measure => simp [intOf]; omega
        · have hkn' : ¬ (k : Int) < n := by omega
          go_wp2_with (first | (refine wl_load rfl _ _ rfl bp (k * 33) (pcells s.pend ++ sp) (wcell (at_, x)) 50 (HO1.out.heap (.tail _ (.tail _ (.tail _ (.head _))))) (by rfl) _ Try.underlying50 rfl (write_size _ HX.out) HLD.out ?_) | (refine wl_alloc rfl _ rfl HO1.out _ (alloc_write _) ?_; intro g w2 hO2; have HO2 := Lib.hid hO2; clear hO2) | (refine wl_store rfl _ _ _ rfl HO2.out 0 g 0 (wcell (0, zsec)) (wcell (at_, x)) _ rfl (by rfl) (by rfl) (write_size _ HX.out) (one_wcell _) (by rw [length_wcell, length_wcell, HX.out]; exact Nat.le_refl _) ?_; intro w3 hO3; rw [wr_all (wcell (0, zsec)) (wcell (at_, x)) (by rw [length_wcell, length_wcell, HX.out]; rfl)] at hO3; have HO3 := Lib.hid hO3; clear hO3 HO2))
          have hfin : survAll s.fl (s.pend.take (k + 1)) ks = survAll s.fl (s.pend.take k) ks := by
            rw [HT.out, dif_neg (by rw [HKL.out]; exact hkn)]
          have hO6 := HO3.out.tail
          rw [← hfin] at hO6
          have HO6 := Lib.hid hO6
          clear hO6 hfin HO3 HO1
          go_roundw
          case rel => exact ⟨k + 1, by omega, by go_num, HO6.out⟩
          case measure => simp [intOf]; omega
      · obtain rfl : k = s.pend.length := by omega
        have hO1 := HO1.out
        rw [List.take_length] at hO1
        have hFr := Lib.hid (row_survAll s.pend s.fl ks HK.out.row HK.out.prow)
        have hFl := Lib.hid (length_survAll s.pend s.fl ks)
        have HFA := Lib.hid (fresh_all s.fl s.pend ks HPIN.out)
        have hc2 : wr.cell? ⟨bd, 2, none⟩ = some (.slice (some ⟨bp, 0, none⟩) s.pend.length cap) := hO1.cell (.head _) 2
        have HO2 := Lib.hid hO1
        generalize hFe : survAll s.fl s.pend ks = F at *
        have HFE := Lib.hid hFe
        clear hFe HO1 hO1 hk hlt HKS HKL
        go_wp2
        go_loopw [35] (fun t w' => ∃ k : Nat, k ≤ s.pend.length ∧ t = .int .i64 k ∧ Hid (Own w0 w' ((bd, .cells (dcells bf bl cf cl (.slice (some ⟨bp, 0, none⟩) s.pend.length cap) s) 45) :: (bf, .cells (List.toArray (secs (F) ++ sf)) 48) :: (bl, .cells (List.toArray (secs (fresh F s.la (s.pend.take k)) ++ sl)) 48) :: (bp, .cells (List.toArray (pcells s.pend ++ sp)) 50) :: R))) (fun t _ => s.pend.length - (intOf t).toNat)
        case atStart => exact ⟨0, Nat.zero_le _, rfl, HO2.out⟩
        case round =>
          obtain ⟨k, hk, rfl, HO1⟩ := hrel
          clear HO2 hc2
          by_cases hlt : k < s.pend.length
          · have hq := HRW.out _ (List.getElem_mem hlt)
            have hprow := HK.out.prow _ (List.getElem_mem hlt)
            have HLD := Lib.hid (pend_load s.pend sp HRW.out k hlt)
            generalize hqe : s.pend[k] = q at hq hprow HLD
            have HQ := Lib.hid hqe
            clear hqe
            obtain ⟨at_, x⟩ := q
            simp only at hq hprow
            have hatn := hprow.1
            have hat : (at_ : Int) < s.n := by omega
            have hat0 : (0 : Int) ≤ at_ := by omega
            have HX := Lib.hid hq
            clear hq hprow
            go_wp2_with (first | (refine wl_load rfl _ _ rfl bp (k * 33) (pcells s.pend ++ sp) (wcell (at_, x)) 50 (HO1.out.heap (.tail _ (.tail _ (.tail _ (.head _))))) (by rfl) _ Try.underlying50 rfl (write_size _ HX.out) HLD.out ?_) | (refine wl_alloc rfl _ rfl HO1.out _ (alloc_write _) ?_; intro g w2 hO2; have HO2 := Lib.hid hO2; clear hO2) | (refine wl_store rfl _ _ _ rfl HO2.out 0 g 0 (wcell (0, zsec)) (wcell (at_, x)) _ rfl (by rfl) (by rfl) (write_size _ HX.out) (one_wcell _) (by rw [length_wcell, length_wcell, HX.out]; exact Nat.le_refl _) ?_; intro w3 hO3; rw [wr_all (wcell (0, zsec)) (wcell (at_, x)) (by rw [length_wcell, length_wcell, HX.out]; rfl)] at hO3; have HO3 := Lib.hid hO3; clear hO3 HO2))
            have hO3 : Own w0 w3 ((g, .cells (wcell (at_, x)).toArray 50) :: (bd, .cells (dcells bf bl cf cl (.slice (some ⟨bp, 0, none⟩) s.pend.length cap) s) 45) :: (bf, .cells (List.toArray (secs (F) ++ sf)) 48) :: (bl, .cells (List.toArray (secs (fresh F s.la (s.pend.take k)) ++ sl)) 48) :: (bp, .cells (List.toArray (pcells s.pend ++ sp)) 50) :: R) := HO3.out
            clear HO3 HO1
            have hb0 : w3.cell? ⟨bd, 0, none⟩ = some (.slice (some ⟨bf, 0, none⟩) s.n cf) := hO3.cell (.tail _ (.head _)) 0
            have hb1 : w3.cell? ⟨bd, 1, none⟩ = some (.slice (some ⟨bl, 0, none⟩) s.n cl) := hO3.cell (.tail _ (.head _)) 1
            have hg0 : w3.cell? ⟨g, 0, none⟩ = some (.int .i64 at_) := hO3.cell (.head _) 0
            have HO3 := Lib.hid hO3
            clear hO3
            have hatF : at_ < F.length := by rw [hFl.out]; exact hatn
            have hy := Lib.hid (hFr.out F[at_] (List.getElem_mem hatF))
            have hld : ((secs F ++ sf).drop (at_ * 32)).take (bv F[at_]).length = bv F[at_] := by
              have h1 := secs_take at_ F hFr.out hatF
              have hl := length_secs F hFr.out
              rw [length_bv, hy.out, List.drop_append_of_le_length (by omega), List.take_append_of_le_length (by simp; omega)]
              exact h1
            have HLD2 := Lib.hid hld
            clear hld
            refine wp_region_lin (fun w' => w' = w3.drew) 15 [(0, true), (1, true), (2, true), (3, true), (4, true), (5, true), (6, true), (7, true), (8, true), (9, true), (10, true), (11, true), (12, true), (13, true), (14, true)] (by kernel_rfl) (by kernel_rfl) (fun _ _ d _ _ h => by cases d <;> exact h) rfl ?_
            simp only [List.map_cons, List.map_nil, pick_zero, pick_succ, List.drop_succ_cons, List.drop_zero]
            iterate 13 (refine lin_q ?_ rfl ?_ ?_; rotate_left 1; (focus (rintro w' rfl; go_simp; try with_reducible rfl)); simp only [Act.put, List.setIfInBounds_toArray, List.set_cons_zero, List.set_cons_succ])
            refine lin_load rfl _ _ rfl bf (at_ * 32) (secs F ++ sf) (bv F[at_]) 48 (by rfl) _ Try.underlying48 rfl (sector_size _ hy.out) HLD2.out (fun w' e => by rw [e]; exact HO3.out.heap (.tail _ (.tail _ (.head _)))) ?_
            simp only [Act.put, List.setIfInBounds_toArray, List.set_cons_zero, List.set_cons_succ]
            iterate 1 (refine lin_q ?_ rfl ?_ ?_; rotate_left 1; (focus (rintro w' rfl; go_simp; try with_reducible rfl)); simp only [Act.put, List.setIfInBounds_toArray, List.set_cons_zero, List.set_cons_succ])
            refine lin_nil ?_
            have hrow := row_fresh F hFr.out (s.pend.take k) s.la HK.out.larow (fun q hq => by rw [hFl.out]; exact HPIN.out q (List.mem_of_mem_take hq))
            have hfl := length_fresh F (s.pend.take k) s.la
            have hlen := length_secs _ hrow
            have hlal : s.la.length = s.n := s.length_la
            refine wl_store rfl _ _ _ rfl HO3.out.drew 3 bl (at_ * 32) (secs (fresh F s.la (s.pend.take k)) ++ sl) (bv F[at_]) _ rfl (by rfl) (by rfl) (sector_size _ hy.out) (one_bv _) (by simp only [length_bv, hy.out, List.length_append, hlen, hfl, hlal]; omega) ?_
            intro w4 hO4
            rw [secs_set at_ F[at_] hy.out _ sl hrow (by rw [hfl, hlal]; omega)] at hO4
            have hO5 := hO4.tail
            have e1 := fresh_take F s.la s.pend k hlt
            rw [HQ.out] at e1
            have e2 : F.getD at_ [] = F[at_] := by simp [List.getD, hatF]
            simp only [e2] at e1
            rw [← e1] at hO5
            have HO5 := Lib.hid hO5
            clear hO4 hO5 e1 e2 hrow hlen hfl hlal HO3 hb0 hg0 hb1 HLD2
            go_wp2
            go_roundw
            case rel => exact ⟨k + 1, by omega, by go_num, HO5.out⟩
            case measure => simp [intOf]; omega
          · obtain rfl : k = s.pend.length := by omega
            have hO1 := HO1.out
            have hfa : fresh F s.la (List.take s.pend.length s.pend) = F := by rw [List.take_length]; exact HFA.out
            rw [hfa] at hO1
            have hc2 : wr.cell? ⟨bd, 2, none⟩ = some (.slice (some ⟨bp, 0, none⟩) s.pend.length cap) := hO1.cell (.head _) 2
            have hc3 : wr.cell? ⟨bd, 3, none⟩ = some (.int .i64 s.left) := hO1.cell (.head _) 3
            have hc4 : wr.cell? ⟨bd, 4, none⟩ = some (.bool s.down) := hO1.cell (.head _) 4
            have hf2 : wr.frozen? ⟨bd, 2, none⟩ = false := hO1.frozen (.head _) 2
            have hf3 : wr.frozen? ⟨bd, 3, none⟩ = false := hO1.frozen (.head _) 3
            have hf4 : wr.frozen? ⟨bd, 4, none⟩ = false := hO1.frozen (.head _) 4
            rw [← HFE.out] at hO1
            have HO2 := Lib.hid hO1
            clear HO1 hO1 hfa
            go_wp2
            go_end0
            exact ⟨rfl, crash_fin HK.out ks (a := [_]) hcf hcl (((HO2.out.setAt 0 rfl 2 (.slice none 0 0)).setAt 0 rfl 3 (.int .i64 (-1))).setAt 0 rfl 4 (.bool false))⟩
end
end Go.Proofs.Ytelboocnenaicaa
