/-
  Package disk: Clone.
-/
import Derived.Test.YtelboocnenaicaaDisk7
namespace Go.Proofs.Ytelboocnenaicaa
set_option linter.unusedVariables false
set_option linter.unusedSimpArgs false
set_option maxRecDepth 20000
open Go.RowKit
section
variable {w0 w : World} {d : Value} {s : DSt} {L R : Blks}
set_option maxHeartbeats 1000000 in
theorem clone_secs (hO : Own w0 w R) (ad : Addr) (n c : Nat) (vs : List Value) (hl : vs.length = n * 32) (h1 : ∀ u ∈ vs, u.oneCell' = true) (hn : n ≤ 1073741824)
    (hsrc : ∀ w' L', Own w0 w' (L' ++ R) → ∀ j u, vs[j]? = some u → w'.cell? (ad.add j) = some u) :
    Calls Try.prog 22 #[.slice (some ad) n c] w (GotRow w0 R 48 32 n vs) := by
  have heq := Lib.run_eql_slice_nil (P := Try.prog) w 42 _ (some ad) n c 0 0 Try.underlying42
  have HL := Lib.hid hl
  have HS := Lib.hid hsrc
  have H1 := Lib.hid h1
  have HO := Lib.hid hO
  clear hsrc hO hl h1
  go_enter Try.func22, Try.ntmps22
  go_wp2_with (first | (refine wl_buildSlice rfl _ _ _ rfl HO.out (.cells [].toArray 48) (by kernel_rfl) ?_; intro g w1 hO1; have HO1 := Lib.hid hO1; clear hO1) | (refine wl_append rfl _ _ _ rfl _ _ 32 32 Try.underlying42 sector_info (by rfl) (by omega) (.slice (some ⟨g, 0, none⟩) 0 0) 0 [] (by rfl) (L := [(g, .cells [].toArray 48)]) (R := R) ⟨rfl, .inr ⟨g, 0, [], rfl, rfl, by simp, Nat.le_refl _, by simp [maxLen]⟩⟩ (by exact HO1.out) ad n c vs (by rfl) HL.out (HS.out w1 [_] HO1.out) H1.out (by simp only [maxLen]; omega) (by omega) ?_; intro v' w2 L2 hr2 hO2 hv2; have HR2 := Lib.hid hr2; have HV2 := Lib.hid hv2; have HO2 := Lib.hid hO2; clear hr2 hv2 hO2))
  go_ret
  refine ⟨v', L2, rfl, ?_, fun e => ?_, HO2.out⟩
  · have := HR2.out
    rwa [Nat.zero_add, List.nil_append] at this
  · have := HV2.out e
    cases this
set_option maxHeartbeats 1000000 in
theorem clone_pend (hO : Own w0 w R) (ad : Addr) (n c : Nat) (vs : List Value) (hl : vs.length = n * 33) (h1 : ∀ u ∈ vs, u.oneCell' = true) (hn : n ≤ 1073741824)
    (hsrc : ∀ w' L', Own w0 w' (L' ++ R) → ∀ j u, vs[j]? = some u → w'.cell? (ad.add j) = some u) :
    Calls Try.prog 23 #[.slice (some ad) n c] w (GotRow w0 R 50 33 n vs) := by
  have heq := Lib.run_eql_slice_nil (P := Try.prog) w 43 _ (some ad) n c 0 0 Try.underlying43
  have HL := Lib.hid hl
  have HS := Lib.hid hsrc
  have H1 := Lib.hid h1
  have HO := Lib.hid hO
  clear hsrc hO hl h1
  go_enter Try.func23, Try.ntmps23
  go_wp2_with (first | (refine wl_buildSlice rfl _ _ _ rfl HO.out (.cells [].toArray 50) (by kernel_rfl) ?_; intro g w1 hO1; have HO1 := Lib.hid hO1; clear hO1) | (refine wl_append rfl _ _ _ rfl _ _ 33 40 Try.underlying43 write_info (by rfl) (by omega) (.slice (some ⟨g, 0, none⟩) 0 0) 0 [] (by rfl) (L := [(g, .cells [].toArray 50)]) (R := R) ⟨rfl, .inr ⟨g, 0, [], rfl, rfl, by simp, Nat.le_refl _, by simp [maxLen]⟩⟩ (by exact HO1.out) ad n c vs (by rfl) HL.out (HS.out w1 [_] HO1.out) H1.out (by simp only [maxLen]; omega) (by omega) ?_; intro v' w2 L2 hr2 hO2 hv2; have HR2 := Lib.hid hr2; have HV2 := Lib.hid hv2; have HO2 := Lib.hid hO2; clear hr2 hv2 hO2))
  go_ret
  refine ⟨v', L2, rfl, ?_, fun e => ?_, HO2.out⟩
  · have := HR2.out
    rwa [Nat.zero_add, List.nil_append] at this
  · have := HV2.out e
    cases this
set_option maxHeartbeats 1000000 in
theorem clone_pend_nil (w : World) (n : Nat) : Calls Try.prog 23 #[.slice none n 0] w fun e w' => e = .returned (.slice none 0 0) ∧ w = w' := by
  have heq := Lib.run_eql_slice_nil (P := Try.prog) w 43 _ none n 0 0 0 Try.underlying43
  go_enter Try.func23, Try.ntmps23
  go_wp2
  go_ret
  exact ⟨rfl, rfl⟩
theorem one_secs (fl : List (List Int)) : ∀ u ∈ secs fl, u.oneCell' = true := by
  intro u hu
  simp only [secs, List.mem_flatMap] at hu
  obtain ⟨x, _, hu⟩ := hu
  exact one_bv x u hu
theorem one_pcells (p : List (Nat × List Int)) : ∀ u ∈ pcells p, u.oneCell' = true := by
  intro u hu
  simp only [pcells, List.mem_flatMap] at hu
  obtain ⟨x, _, hu⟩ := hu
  exact one_wcell x u hu
theorem alloc_disk (w : World) : (Instr.alloc 45 true (.tuple #[])).run Try.prog w = .ok (.pointer (some ⟨w.heap.size, 0, none⟩)) (w.alloc (.cells [.slice none 0 0, .slice none 0 0, .slice none 0 0, .int .i64 0, .bool false].toArray 45)) := by kernel_rfl
/-- A clone: another disk in the same state. -/
def GotClone (w0 : World) (R : Blks) (d : Value) (s : DSt) (e : Ending) (w' : World) : Prop :=
  ∃ c Lc L, e = .returned c ∧ IsDisk c s Lc ∧ IsDisk d s L ∧ Own w0 w' (Lc ++ (L ++ R))
theorem src_own {w0 : World} {R : Blks} {g : Nat} {cs : List Value} {t : TypeId} {vs sp : List Value} (hm : (g, Obj.cells cs.toArray t) ∈ R) (e : cs = vs ++ sp) :
    ∀ w' L', Own w0 w' (L' ++ R) → ∀ j u, vs[j]? = some u → w'.cell? ((⟨g, 0, none⟩ : Addr).add j) = some u := by
  intro w' L' hO j u hu
  rw [addr_add_zero, hO.cell (List.mem_append_right _ hm) j, e]
  simp only [List.getElem?_toArray]
  rw [List.getElem?_append_left (List.getElem?_eq_some_iff.1 hu).1]
  exact hu
set_option maxHeartbeats 2000000 in
theorem clone_c (hd : IsDisk d s L) (hO : Own w0 w (L ++ R)) : Calls Try.prog 13 #[d] w (GotClone w0 R d s) := by
  have HD := Lib.hid hd
  obtain ⟨ok, bd, bf, bl, cf, cl, sf, sl, pv, pb, rfl, hp, hcf, hcl, rfl⟩ := hd
  have HK := Lib.hid ok
  have HO := Lib.hid hO
  have HP := Lib.hid hp
  have hn := ok.n
  have hpl := ok.plen
  have hlf := Lib.hid (length_secs s.fl ok.row)
  have hll := Lib.hid (length_secs s.la ok.larow)
  have hlal := Lib.hid (s.length_la)
  obtain ⟨pa, pc, hpv⟩ := hp.val
  subst hpv
  clear hO hp ok
  go_enter Try.func13, Try.ntmps13
  go_wp2_with (first | (refine wl_load rfl _ _ rfl bd 0 _ [.slice (some ⟨bf, 0, none⟩) s.n cf, .slice (some ⟨bl, 0, none⟩) s.n cl, .slice pa s.pend.length pc, .int .i64 s.left, .bool s.down] 45 (HO.out.heap (.head _)) (by rfl) _ Try.underlying45 rfl (by kernel_rfl) (by rfl) ?_) | (refine wl_alloc rfl _ rfl HO.out _ (alloc_disk _) ?_; intro g w2 hO2; have HO2 := Lib.hid hO2; clear hO2) | (refine wl_store rfl _ _ _ rfl HO2.out 0 g 0 _ [.slice (some ⟨bf, 0, none⟩) s.n cf, .slice (some ⟨bl, 0, none⟩) s.n cl, .slice pa s.pend.length pc, .int .i64 s.left, .bool s.down] _ rfl (by rfl) (by rfl) (by kernel_rfl) (by simp [Value.oneCell']) (by simp) ?_; intro w3 hO3; have hc3 : w3.cell? ⟨bd, 0, none⟩ = some (.slice (some ⟨bf, 0, none⟩) s.n cf) := hO3.cell (.tail _ (.head _)) 0; have HO3 := Lib.hid hO3; clear hO3 HO2))
  have hO3 : Own w0 w3 ((g, Obj.cells #[.slice (some ⟨bf, 0, none⟩) s.n cf, .slice (some ⟨bl, 0, none⟩) s.n cl, .slice pa s.pend.length pc, .int .i64 s.left, .bool s.down] 45) :: (bd, Obj.cells (dcells bf bl cf cl (.slice pa s.pend.length pc) s) 45) :: (bf, Obj.cells (secs s.fl ++ sf).toArray 48) :: (bl, Obj.cells (secs s.la ++ sl).toArray 48) :: (pb ++ R)) := HO3.out
  refine (clone_secs hO3 ⟨bf, 0, none⟩ s.n cf (secs s.fl) hlf.out (one_secs _) (by omega) (src_own (.tail _ (.tail _ (.head _))) rfl)).mono ?_
  rintro e w4 ⟨v4, L4, rfl, hr4, hv4, hO4⟩
  obtain ⟨bf', cf', sf', rfl, rfl, hl4, hn4, hm4⟩ := hr4.some hv4
  have hO4' : Own w0 w4 ((g, Obj.cells #[.slice (some ⟨bf, 0, none⟩) s.n cf, .slice (some ⟨bl, 0, none⟩) s.n cl, .slice pa s.pend.length pc, .int .i64 s.left, .bool s.down] 45) :: (bf', Obj.cells (secs s.fl ++ sf').toArray 48) :: (bd, Obj.cells (dcells bf bl cf cl (.slice pa s.pend.length pc) s) 45) :: (bf, Obj.cells (secs s.fl ++ sf).toArray 48) :: (bl, Obj.cells (secs s.la ++ sl).toArray 48) :: (pb ++ R)) := Own.rot (A := [_]) (B := [_]) hO4
  have HO4 := Lib.hid hO4'
  clear hr4 hv4 hO4 hO4' hl4 hm4 HO3 hO3 hc3 HO
  go_wp2_with (refine wl_store1 rfl _ _ _ rfl HO4.out 0 g 0 _ _ _ rfl (by rfl) (by rfl) (by rfl) (by kernel_rfl) (by rfl) (by simp) ?_; intro w5 hO5; have hc5 : w5.cell? ⟨bd, 1, none⟩ = some (.slice (some ⟨bl, 0, none⟩) s.n cl) := hO5.cell (.tail _ (.tail _ (.head _))) 1; have HO5 := Lib.hid hO5; clear hO5 HO4)
  have hO5 : Own w0 w5 ((g, Obj.cells #[.slice (some ⟨bf', 0, none⟩) s.n cf', .slice (some ⟨bl, 0, none⟩) s.n cl, .slice pa s.pend.length pc, .int .i64 s.left, .bool s.down] 45) :: (bf', Obj.cells (secs s.fl ++ sf').toArray 48) :: (bd, Obj.cells (dcells bf bl cf cl (.slice pa s.pend.length pc) s) 45) :: (bf, Obj.cells (secs s.fl ++ sf).toArray 48) :: (bl, Obj.cells (secs s.la ++ sl).toArray 48) :: (pb ++ R)) := HO5.out
  refine (clone_secs hO5 ⟨bl, 0, none⟩ s.n cl (secs s.la) (by rw [hll.out, hlal.out]) (one_secs _) (by omega) (src_own (.tail _ (.tail _ (.tail _ (.tail _ (.head _))))) rfl)).mono ?_
  rintro e w6 ⟨v6, L6, rfl, hr6, hv6, hO6⟩
  obtain ⟨bl', cl', sl', rfl, rfl, hl6, hn6, hm6⟩ := hr6.some hv6
  have hO6' : Own w0 w6 ((g, Obj.cells #[.slice (some ⟨bf', 0, none⟩) s.n cf', .slice (some ⟨bl, 0, none⟩) s.n cl, .slice pa s.pend.length pc, .int .i64 s.left, .bool s.down] 45) :: (bl', Obj.cells (secs s.la ++ sl').toArray 48) :: (bf', Obj.cells (secs s.fl ++ sf').toArray 48) :: (bd, Obj.cells (dcells bf bl cf cl (.slice pa s.pend.length pc) s) 45) :: (bf, Obj.cells (secs s.fl ++ sf).toArray 48) :: (bl, Obj.cells (secs s.la ++ sl).toArray 48) :: (pb ++ R)) := Own.rot (A := [_]) (B := [_]) hO6
  have HO6 := Lib.hid hO6'
  clear hr6 hv6 hO6 hO6' hl6 hm6 HO5 hO5 hc5
  go_wp2_with (refine wl_store1 rfl _ _ _ rfl HO6.out 0 g 1 _ _ _ rfl (by rfl) (by rfl) (by rfl) (by kernel_rfl) (by rfl) (by simp) ?_; intro w7 hO7; have hc7 : w7.cell? ⟨bd, 2, none⟩ = some (.slice pa s.pend.length pc) := hO7.cell (.tail _ (.tail _ (.tail _ (.head _)))) 2; have HO7 := Lib.hid hO7; clear hO7 HO6)
  have hO7 : Own w0 w7 ((g, Obj.cells #[.slice (some ⟨bf', 0, none⟩) s.n cf', .slice (some ⟨bl', 0, none⟩) s.n cl', .slice pa s.pend.length pc, .int .i64 s.left, .bool s.down] 45) :: (bl', Obj.cells (secs s.la ++ sl').toArray 48) :: (bf', Obj.cells (secs s.fl ++ sf').toArray 48) :: (bd, Obj.cells (dcells bf bl cf cl (.slice pa s.pend.length pc) s) 45) :: (bf, Obj.cells (secs s.fl ++ sf).toArray 48) :: (bl, Obj.cells (secs s.la ++ sl).toArray 48) :: (pb ++ R)) := HO7.out
  have hfin : ∀ (w9 : World) (v9 : Value) (L9 : Blks), IsPend v9 s.pend L9 → Own w0 w9 (L9 ++ ((g, Obj.cells #[.slice (some ⟨bf', 0, none⟩) s.n cf', .slice (some ⟨bl', 0, none⟩) s.n cl', v9, .int .i64 s.left, .bool s.down] 45) :: (bl', Obj.cells (secs s.la ++ sl').toArray 48) :: (bf', Obj.cells (secs s.fl ++ sf').toArray 48) :: (bd, Obj.cells (dcells bf bl cf cl (.slice pa s.pend.length pc) s) 45) :: (bf, Obj.cells (secs s.fl ++ sf).toArray 48) :: (bl, Obj.cells (secs s.la ++ sl).toArray 48) :: (pb ++ R))) →
      GotClone w0 R (.pointer (some ⟨bd, 0, none⟩)) s (.returned (.pointer (some ⟨g, 0, none⟩))) w9 := by
    intro w9 v9 L9 hp9 hO9
    refine ⟨_, (g, Obj.cells #[.slice (some ⟨bf', 0, none⟩) s.n cf', .slice (some ⟨bl', 0, none⟩) s.n cl', v9, .int .i64 s.left, .bool s.down] 45) :: (bf', Obj.cells (secs s.fl ++ sf').toArray 48) :: (bl', Obj.cells (secs s.la ++ sl').toArray 48) :: L9, _, rfl, ⟨HK.out, g, bf', bl', cf', cl', sf', sl', v9, L9, rfl, hp9, hn4, hn6, rfl⟩, HD.out, ?_⟩
    refine hO9.perm ?_
    refine List.Perm.trans (List.perm_middle (l₁ := L9)) ?_
    refine List.Perm.cons _ ?_
    refine List.Perm.trans (List.perm_middle (l₁ := L9)) ?_
    refine List.Perm.trans (List.Perm.cons _ (List.perm_middle (l₁ := L9))) ?_
    exact List.Perm.swap _ _ _
  have HF := Lib.hid hfin
  clear hfin HO7
  rcases HP.out.2 with ⟨hpv, hp0, rfl⟩ | ⟨bp, cap, sp, hpv, rfl, hpl', hpc, hpm⟩
  · injection hpv with e1 e2 e3
    subst e1 e3
    have HO7 := Lib.hid hO7
    have HPN := Lib.hid e2
    clear hO7 e2
    refine (clone_pend_nil w7 s.pend.length).mono ?_
    rintro e w8 ⟨rfl, rfl⟩
    clear hc7
    go_wp2_with (refine wl_store1 rfl _ _ _ rfl HO7.out 0 g 2 _ _ _ rfl (by rfl) (by rfl) (by rfl) (by kernel_rfl) (by rfl) (by simp) ?_; intro w9 hO9; have HO9 := Lib.hid hO9; clear hO9 HO7)
    go_ret
    exact HF.out w9 _ [] ⟨HP.out.1, .inl ⟨rfl, HPN.out, rfl⟩⟩ HO9.out
  · injection hpv with e1 e2 e3
    subst e1 e3
    refine (clone_pend (R := _ :: _ :: _ :: _ :: _ :: _ :: _ :: R) hO7 ⟨bp, 0, none⟩ s.pend.length pc (pcells s.pend) HP.out.1 (one_pcells _) (by omega) (src_own (.tail _ (.tail _ (.tail _ (.tail _ (.tail _ (.tail _ (.head _))))))) rfl)).mono ?_
    rintro e w8 ⟨v8, L8, rfl, hr8, hv8, hO8⟩
    have HR8 := Lib.hid hr8
    have hO8' := Own.rot (B := [_]) hO8
    have HO8 := Lib.hid hO8'
    clear hr8 hv8 hO8 hO8' hO7 hc7
    obtain ⟨ga, gc, hv8⟩ := HR8.out.val
    subst hv8
    go_wp2_with (refine wl_store1 rfl _ _ _ rfl HO8.out 0 g 2 _ _ _ rfl (by rfl) (by rfl) (by rfl) (by kernel_rfl) (by rfl) (by simp) ?_; intro w9 hO9; have HO9 := Lib.hid hO9; clear hO9 HO8)
    go_ret
    exact HF.out w9 _ L8 HR8.out (Own.rot (A := [_]) HO9.out)
end
end Go.Proofs.Ytelboocnenaicaa
