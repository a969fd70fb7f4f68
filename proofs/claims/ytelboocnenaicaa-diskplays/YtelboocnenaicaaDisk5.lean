/-
  Package disk: Flush.
-/
import Derived.Test.YtelboocnenaicaaDisk4
namespace Go.Proofs.Ytelboocnenaicaa
set_option linter.unusedVariables false
set_option linter.unusedSimpArgs false
set_option maxRecDepth 20000
open Go.RowKit

theorem over_take_succ (fl : List (List Int)) (p : List (Nat × List Int)) (k : Nat) (hk : k < p.length) : over fl (p.take (k + 1)) = (over fl (p.take k)).set p[k].1 p[k].2 := by
  rw [List.take_succ_eq_append_getElem hk]; exact over_snoc _ _ _ _
theorem pend_load (p : List (Nat × List Int)) (sp : List Value) (h : ∀ q ∈ p, q.2.length = 32) (k : Nat) (hk : k < p.length) : ((pcells p ++ sp).drop (k * 33)).take (wcell p[k]).length = wcell p[k] := by
  have h33 : (wcell p[k]).length = 33 := by rw [length_wcell, h _ (List.getElem_mem hk)]
  have hlen := length_pcells p h
  have h1 := pcells_take k p h hk
  rw [h33, List.drop_append_of_le_length (by omega), List.take_append_of_le_length (by simp; omega)]
  exact h1
def DSt.flush (s : DSt) : DSt := if s.down then s else { s with fl := s.la, pend := [] }
def DSt.flushE (s : DSt) : Int := if s.down then 8 else 0
theorem row_over' (fl : List (List Int)) (h : ∀ x ∈ fl, x.length = 32) (p : List (Nat × List Int)) (hp : ∀ q ∈ p, q.2.length = 32) (k : Nat) : ∀ x ∈ over fl (p.take k), x.length = 32 :=
  row_over fl h _ (fun q hq => hp q (List.mem_of_mem_take hq))
section
variable {w0 w : World} {d : Value} {s : DSt} {L R : Blks}
theorem flush_fin (ok : s.Ok) {bd bf bl cf cl : Nat} {sf sl : List Value} {pv : Value} {a : Blks} (hcf : s.n ≤ cf) (hcl : s.n ≤ cl)
    (hO : Own w0 w ((bd, .cells ((dcells bf bl cf cl pv s).setIfInBounds 2 (.slice none 0 0)) 45) :: (bf, .cells (List.toArray (secs s.la ++ sf)) 48) :: (bl, .cells (List.toArray (secs s.la ++ sl)) 48) :: (a ++ R))) :
    ∃ L, IsDisk (.pointer (some ⟨bd, 0, none⟩)) { s with fl := s.la, pend := [] } L ∧ Own w0 w (L ++ R) := by
  have en : (DSt.n { s with fl := s.la, pend := [] }) = s.n := s.length_la
  refine ⟨_, ⟨⟨by rw [en]; exact ok.n, ok.larow, by simp, ok.left, by simp⟩, bd, bf, bl, cf, cl, sf, sl, .slice none 0 0, [], rfl, ⟨rfl, .inl ⟨rfl, rfl, rfl⟩⟩, by rw [en]; exact hcf, by rw [en]; exact hcl, rfl⟩, ?_⟩
  have h : Own w0 w ([(bd, .cells ((dcells bf bl cf cl pv s).setIfInBounds 2 (.slice none 0 0)) 45), (bf, .cells (List.toArray (secs s.la ++ sf)) 48), (bl, .cells (List.toArray (secs s.la ++ sl)) 48)] ++ (a ++ R)) := hO
  have h2 := h.rot.right
  have e2 : dcells bf bl cf cl (.slice none 0 0) { s with fl := s.la, pend := [] } = (dcells bf bl cf cl pv s).setIfInBounds 2 (.slice none 0 0) := by
    simp [dcells, en]
  rw [e2]
  exact h2
set_option maxHeartbeats 2000000 in
theorem flush_c (hd : IsDisk d s L) (hO : Own w0 w (L ++ R)) : Calls Try.prog 10 #[d] w (HasDisk w0 R d s.flush (.int .i64 s.flushE)) := by
  have HD := Lib.hid hd
  obtain ⟨ok, bd, bf, bl, cf, cl, sf, sl, pv, pb, rfl, hp, hcf, hcl, rfl⟩ := hd
  have hc4 : w.cell? ⟨bd, 4, none⟩ = some (.bool s.down) := hO.cell (.head _) 4
  have HO := Lib.hid hO
  cases hdn : s.down with
  | true =>
    rw [show s.flush = s by simp [DSt.flush, hdn], show s.flushE = 8 by simp [DSt.flushE, hdn]]
    rw [hdn] at hc4
    clear hO hp hcf hcl hdn
    go_enter Try.func10, Try.ntmps10
    go_wp2
    go_ret
    exact ⟨rfl, _, HD.out, HO.out⟩
  | false =>
    rw [show s.flush = { s with fl := s.la, pend := [] } by simp [DSt.flush, hdn], show s.flushE = 0 by simp [DSt.flushE, hdn]]
    rw [hdn] at hc4
    clear hdn HD
    have hc2 : w.cell? ⟨bd, 2, none⟩ = some pv := hO.cell (.head _) 2
    have HK := Lib.hid ok
    rcases hp.2 with ⟨rfl, hp0, rfl⟩ | ⟨bp, cap, sp, rfl, rfl, hpl, hpc, hpm⟩
    · have hfz : w.frozen? ⟨bd, 2, none⟩ = false := hO.frozen (.head _) 2
      have hp1 : s.pend = [] := List.eq_nil_of_length_eq_zero hp0
      have hla : s.la = s.fl := by simp [DSt.la, hp1, over]
      have HLA := Lib.hid hla
      clear hO hp hp0 hp1 hla ok
      go_enter Try.func10, Try.ntmps10
      go_wp2
      go_loopw [14] (fun t w' => t = .int .i64 0 ∧ w' = w) (fun _ _ => 0)
      case atStart => exact ⟨rfl, rfl⟩
      case round =>
        obtain ⟨rfl, rfl⟩ := hrel
        go_wp2
        go_ret
        have h := HO.out
        rw [← HLA.out] at h
        exact ⟨rfl, flush_fin HK.out (a := []) hcf hcl (h.setAt 0 rfl 2 (.slice none 0 0))⟩
    · have hrw : ∀ q ∈ s.pend, q.2.length = 32 := fun q hq => (ok.prow q hq).2
      clear hO hp
      have HRW := Lib.hid hrw
      clear hrw ok hpl hpc hpm
      go_enter Try.func10, Try.ntmps10
      go_wp2
      go_loopw [14] (fun t w' => ∃ k : Nat, k ≤ s.pend.length ∧ t = .int .i64 k ∧ Hid (Own w0 w' ((bd, .cells (dcells bf bl cf cl (.slice (some ⟨bp, 0, none⟩) s.pend.length cap) s) 45) :: (bf, .cells (List.toArray (secs (over s.fl (s.pend.take k)) ++ sf)) 48) :: (bl, .cells (List.toArray (secs s.la ++ sl)) 48) :: (bp, .cells (List.toArray (pcells s.pend ++ sp)) 50) :: R))) (fun t _ => s.pend.length - (intOf t).toNat)
      case atStart => exact ⟨0, Nat.zero_le _, rfl, HO.out⟩
      case round =>
        obtain ⟨k, hk, rfl, HO1⟩ := hrel
        clear HO hc2 hc4
        by_cases hlt : k < s.pend.length
        · have hq := HRW.out _ (List.getElem_mem hlt)
          have hprow := HK.out.prow _ (List.getElem_mem hlt)
          have HLD := Lib.hid (pend_load s.pend sp HRW.out k hlt)
          generalize hqe : s.pend[k] = q at hq hprow HLD
          have HQ := Lib.hid hqe
          clear hqe
          obtain ⟨at_, x⟩ := q
          simp only at hq hprow
          have hat : (at_ : Int) < s.n := by omega
          have hat0 : (0 : Int) ≤ at_ := by omega
          have HX := Lib.hid hq
          clear hq hprow
          go_wp2_with (first | (refine wl_load rfl _ _ rfl bp (k * 33) (pcells s.pend ++ sp) (wcell (at_, x)) 50 (HO1.out.heap (.tail _ (.tail _ (.tail _ (.head _))))) (by rfl) _ Try.underlying50 rfl (write_size _ HX.out) HLD.out ?_) | (refine wl_alloc rfl _ rfl HO1.out _ (alloc_write _) ?_; intro g w2 hO2; have HO2 := Lib.hid hO2; clear hO2) | (refine wl_store rfl _ _ _ rfl HO2.out 0 g 0 (wcell (0, zsec)) (wcell (at_, x)) _ rfl (by rfl) (by rfl) (write_size _ HX.out) (one_wcell _) (by rw [length_wcell, length_wcell, HX.out]; exact Nat.le_refl _) ?_; intro w3 hO3; rw [wr_all (wcell (0, zsec)) (wcell (at_, x)) (by rw [length_wcell, length_wcell, HX.out]; rfl)] at hO3; have HO3 := Lib.hid hO3; clear hO3 HO2))
          have hO3 : Own w0 w3 ((g, .cells (wcell (at_, x)).toArray 50) :: (bd, .cells (dcells bf bl cf cl (.slice (some ⟨bp, 0, none⟩) s.pend.length cap) s) 45) :: (bf, .cells (List.toArray (secs (over s.fl (s.pend.take k)) ++ sf)) 48) :: (bl, .cells (List.toArray (secs s.la ++ sl)) 48) :: (bp, .cells (List.toArray (pcells s.pend ++ sp)) 50) :: R) := HO3.out
          clear HO3 HO1
          have hb0 : w3.cell? ⟨bd, 0, none⟩ = some (.slice (some ⟨bf, 0, none⟩) s.n cf) := hO3.cell (.tail _ (.head _)) 0
          have hg0 : w3.cell? ⟨g, 0, none⟩ = some (.int .i64 at_) := hO3.cell (.head _) 0
          have HO3 := Lib.hid hO3
          clear hO3
          refine wp_region_lin (fun w' => w' = w3.drew) 9 [(0, true), (1, true), (2, true), (3, true), (4, true), (5, true), (6, true), (7, true), (8, true)] (by kernel_rfl) (by kernel_rfl) (fun _ _ d _ _ h => by cases d <;> exact h) rfl ?_
          simp only [List.map_cons, List.map_nil, pick_zero, pick_succ, List.drop_succ_cons, List.drop_zero]
          iterate 7 (refine lin_q ?_ rfl ?_ ?_; rotate_left 1; (focus (rintro w' rfl; go_simp; try with_reducible rfl)); simp only [Act.put, List.setIfInBounds_toArray, List.set_cons_zero, List.set_cons_succ])
          refine lin_load rfl _ _ rfl g 1 (wcell (at_, x)) (bv x) 50 (by rfl) _ Try.underlying48 rfl (sector_size _ HX.out) (wcell_drop _ _) (fun w' e => by rw [e]; exact HO3.out.heap (.head _)) ?_
          simp only [Act.put, List.setIfInBounds_toArray, List.set_cons_zero, List.set_cons_succ]
          iterate 1 (refine lin_q ?_ rfl ?_ ?_; rotate_left 1; (focus (rintro w' rfl; go_simp; try with_reducible rfl)); simp only [Act.put, List.setIfInBounds_toArray, List.set_cons_zero, List.set_cons_succ])
          refine lin_nil ?_
          have hrow := row_over' s.fl HK.out.row s.pend HRW.out k
          have hlen := length_secs _ hrow
          rw [length_over] at hlen
          have hnn : s.fl.length = s.n := rfl
          refine wl_store rfl _ _ _ rfl HO3.out.drew 2 bf (at_ * 32) (secs (over s.fl (s.pend.take k)) ++ sf) (bv x) _ rfl (by rfl) (by rfl) (sector_size _ HX.out) (one_bv _) (by simp only [length_bv, HX.out, List.length_append, hlen]; omega) ?_
          intro w4 hO4
          rw [secs_set at_ x HX.out _ sf hrow (by rw [length_over]; omega)] at hO4
          have hO5 := hO4.tail
          have e1 := over_take_succ s.fl s.pend k hlt
          rw [HQ.out] at e1
          simp only at e1
          rw [← e1] at hO5
          have HO5 := Lib.hid hO5
          clear hO4 hO5 e1 hrow hlen HO3 hb0 hg0 hnn
          have hplen := HK.out.plen
          go_wp2
          go_roundw
          case rel => exact ⟨k + 1, by omega, by go_num, HO5.out⟩
          case measure => simp [intOf]; omega
        · obtain rfl : k = s.pend.length := by omega
          have hO1 := HO1.out
          rw [List.take_length] at hO1
          have hc0 : wr.cell? ⟨bd, 2, none⟩ = some (.slice (some ⟨bp, 0, none⟩) s.pend.length cap) := hO1.cell (.head _) 2
          have hf0 : wr.frozen? ⟨bd, 2, none⟩ = false := hO1.frozen (.head _) 2
          have HO2 := Lib.hid hO1
          clear HO1 hO1
          go_wp2
          go_ret
          exact ⟨rfl, flush_fin HK.out (a := [_]) hcf hcl (HO2.out.setAt 0 rfl 2 (.slice none 0 0))⟩
end
end Go.Proofs.Ytelboocnenaicaa
