/-
  Package disk: New, Limit, spend.
-/
import Derived.Test.YtelboocnenaicaaDisk1
import Derived.Test.YtelboocnenaicaaKeep
import Derived.RegionTactic
import Derived.Laws.MakeOwn
namespace Go.Proofs.Ytelboocnenaicaa
set_option linter.unusedVariables false
set_option linter.unusedSimpArgs false
set_option maxRecDepth 20000
open Go.RowKit

def zsec : List Int := List.replicate 32 0
def zsecs (n : Nat) : List (List Int) := List.replicate n zsec
theorem sector_info : (Try.prog.info? 48).map (fun i => (i.zero, i.size, i.bytes)) = some (some (.agg (bv zsec).toArray), 32, 32) := by kernel_rfl
theorem secs_zsecs (n : Nat) : secs (zsecs n) = List.replicate (n * 32) (Value.int .u8 0) := by
  unfold secs zsecs zsec
  induction n with
  | zero => rfl
  | succ n ih => rw [List.replicate_succ, List.flatMap_cons, ih, bv, List.map_replicate, List.replicate_append_replicate]; congr 1; omega
theorem made_secs (n : Nat) : madeCells (bv zsec).toArray (n * 32) = (secs (zsecs n)).toArray := by
  rw [secs_zsecs, bv, zsec, List.map_replicate, made_replicate 32 (by omega)]
theorem make_secs (n : Nat) (hn : n ≤ 1024) (w : World) : (Instr.makeSlice 42 (.int .i64 (n : Int)) (.int .i64 (n : Int))).run Try.prog w =
    .ok (.slice (some ⟨w.heap.size, 0, none⟩) n n) (w.alloc (.cells (secs (zsecs n)).toArray 48)) := by
  obtain ⟨i0, hi0, hz0, hz1, hz2⟩ := info_parts sector_info
  have := run_make_rowN (P := Try.prog) 42 48 i0 _ Try.underlying42 hi0 hz0 .i64 .i64 n n (Nat.le_refl _) (by rw [hz2]; omega) (by omega) w
  rw [hz1] at this
  rw [this, ← made_secs]; rfl
def newSt (n : Nat) : DSt := { fl := zsecs n, pend := [], left := -1, down := false }
theorem newSt_ok (n : Nat) (hn : n ≤ 1024) : (newSt n).Ok where
  n := by simp [DSt.n, newSt, zsecs, hn]
  row := by intro x hx; simp [newSt, zsecs] at hx; rw [hx.2]; simp [zsec]
  prow := by simp [newSt]
  left := by simp [newSt]
  plen := by simp [newSt]
def GotDisk (w0 : World) (R : Blks) (s : DSt) (e : Ending) (w' : World) : Prop := ∃ d L, e = .returned d ∧ IsDisk d s L ∧ Own w0 w' (L ++ R)
theorem newSt_blocks {w0 : World} {R : Blks} (n : Nat) (hn : n ≤ 1024) (bd bf bl : Nat) (w' : World)
    (h : Own w0 w' ((bd, .cells #[.slice (some ⟨bf, 0, none⟩) n n, .slice (some ⟨bl, 0, none⟩) n n, .slice none 0 0, .int .i64 (-1), .bool false] 45) :: (bf, .cells (secs (zsecs n)).toArray 48) :: (bl, .cells (secs (zsecs n)).toArray 48) :: R)) :
    GotDisk w0 R (newSt n) (.returned (.pointer (some ⟨bd, 0, none⟩))) w' := by
  have en : (newSt n).n = n := by simp [DSt.n, newSt, zsecs]
  refine ⟨_, _, rfl, ⟨newSt_ok n hn, bd, bf, bl, n, n, [], [], .slice none 0 0, [], rfl, ⟨rfl, .inl ⟨rfl, rfl, rfl⟩⟩, by omega, by omega, rfl⟩, ?_⟩
  simp only [dcells, en]; simpa [newSt, DSt.la, over] using h
theorem size_alloc (w : World) (o : Obj) : (w.alloc o).heap.size = w.heap.size + 1 := by simp
theorem Own.alloc3 {w0 w : World} {R : Blks} (hO : Own w0 w R) (a b c : Obj) : Own w0 (((w.alloc a).alloc b).alloc c).drew ((w.heap.size + 1 + 1, c) :: (w.heap.size + 1, b) :: (w.heap.size, a) :: R) := by
  have h := (((hO.alloc a).alloc b).alloc c).drew
  simpa only [size_alloc] using h
set_option maxHeartbeats 1000000 in
theorem new_n {w0 w : World} {R : Blks} (hO : Own w0 w R) (n : Nat) (hn1 : n ≤ 1024) : Calls Try.prog 5 #[.int .i64 n] w (GotDisk w0 R (newSt n)) := by
  have hmk := make_secs n hn1
  have h1 : ¬ ((n : Int) < 0) := by omega
  have h2 : ¬ (1024 < (n : Int)) := by omega
  have HO := Lib.hid hO; clear hO
  go_enter Try.func5, Try.ntmps5
  go_wp2
  go_region
  all_goals go_wp2
  all_goals go_ret
  · exact newSt_blocks n hn1 _ _ _ _ ((HO.out.alloc3 _ _ _).perm (.cons _ (.swap _ _ _)))
  · exact newSt_blocks n hn1 _ _ _ _ (HO.out.alloc3 _ _ _)
/-- New: of any number. -/
theorem new_c {w0 w : World} {R : Blks} (hO : Own w0 w R) (i : Int) : Calls Try.prog 5 #[.int .i64 i] w (GotDisk w0 R (newSt (min i.toNat 1024))) := by
  by_cases h0 : 0 ≤ i
  · by_cases h1 : i ≤ 1024
    · obtain ⟨n, rfl⟩ := Int.eq_ofNat_of_zero_le h0
      have := new_n hO n (by omega)
      rwa [Int.toNat_natCast, Nat.min_eq_left (by omega)]
    · rw [Nat.min_eq_right (by omega)]
      have hmk := make_secs 1024 (by omega)
      have hmk' : ∀ w, (Instr.makeSlice 42 (.int .i64 1024) (.int .i64 1024)).run Try.prog w =
        .ok (.slice (some ⟨w.heap.size, 0, none⟩) 1024 1024) (w.alloc (.cells (secs (zsecs 1024)).toArray 48)) := hmk
      clear hmk
      have h2 : 1024 < i := by omega
      have h3 : ¬ (i < 0) := by omega
      have h4 : 0 < i := by omega
      have HO := Lib.hid hO; clear hO
      go_enter Try.func5, Try.ntmps5
      go_wp2
      go_region
      all_goals go_wp2
      all_goals go_ret
      · exact newSt_blocks 1024 (by omega) _ _ _ _ ((HO.out.alloc3 _ _ _).perm (.cons _ (.swap _ _ _)))
      · exact newSt_blocks 1024 (by omega) _ _ _ _ (HO.out.alloc3 _ _ _)
  · have e0 : min i.toNat 1024 = 0 := by omega
    rw [e0]
    have hmk := make_secs 0 (by omega)
    have hmk' : ∀ w, (Instr.makeSlice 42 (.int .i64 0) (.int .i64 0)).run Try.prog w =
      .ok (.slice (some ⟨w.heap.size, 0, none⟩) 0 0) (w.alloc (.cells (secs (zsecs 0)).toArray 48)) := hmk
    clear hmk
    have h2 : i < 0 := by omega
    have HO := Lib.hid hO; clear hO
    clear e0
    go_enter Try.func5, Try.ntmps5
    go_wp2
    go_region
    all_goals go_wp2
    all_goals go_ret
    · exact newSt_blocks 0 (by omega) _ _ _ _ ((HO.out.alloc3 _ _ _).perm (.cons _ (.swap _ _ _)))
    · exact newSt_blocks 0 (by omega) _ _ _ _ (HO.out.alloc3 _ _ _)

/-- The same disk, with one cell of its own turned. -/
theorem IsDisk.set {w0 w : World} {d : Value} {s : DSt} {L R : Blks} (hd : IsDisk d s L) (hO : Own w0 w (L ++ R)) :
    ∃ bd, d = .pointer (some ⟨bd, 0, none⟩) ∧ w.cell? ⟨bd, 3, none⟩ = some (.int .i64 s.left) ∧ w.cell? ⟨bd, 4, none⟩ = some (.bool s.down) ∧ (∀ j, w.frozen? ⟨bd, j, none⟩ = false) ∧
      (∀ n : Int, -1 ≤ n → n ≤ 1000000 → ∃ L', IsDisk d { s with left := n } L' ∧ Own w0 (w.setCell ⟨bd, 3, none⟩ (.int .i64 n)) (L' ++ R)) ∧
      (∀ b : Bool, ∃ L', IsDisk d { s with down := b } L' ∧ Own w0 (w.setCell ⟨bd, 4, none⟩ (.bool b)) (L' ++ R)) := by
  obtain ⟨ok, bd, bf, bl, cf, cl, sf, sl, pv, pb, rfl, hp, hcf, hcl, rfl⟩ := hd
  refine ⟨bd, rfl, hO.cell (.head _) 3, hO.cell (.head _) 4, fun j => hO.frozen (.head _) j, fun n h1 h2 => ?_, fun b => ?_⟩
  · exact ⟨_, ⟨⟨ok.n, ok.row, ok.prow, ⟨h1, h2⟩, ok.plen⟩, bd, bf, bl, cf, cl, sf, sl, pv, pb, rfl, hp, hcf, hcl, rfl⟩, hO.setAt 0 rfl 3 _⟩
  · exact ⟨_, ⟨⟨ok.n, ok.row, ok.prow, ok.left, ok.plen⟩, bd, bf, bl, cf, cl, sf, sl, pv, pb, rfl, hp, hcf, hcl, rfl⟩, hO.setAt 0 rfl 4 _⟩
def HasDisk (w0 : World) (R : Blks) (d : Value) (s : DSt) (v : Value) (e : Ending) (w' : World) : Prop := e = .returned v ∧ ∃ L, IsDisk d s L ∧ Own w0 w' (L ++ R)
section
variable {w0 w : World} {d : Value} {s : DSt} {L R : Blks}
set_option maxHeartbeats 400000 in
theorem limit_c (hd : IsDisk d s L) (hO : Own w0 w (L ++ R)) (i : Int) (hi : i ≤ 1000000) :
    Calls Try.prog 11 #[d, .int .i64 i] w (HasDisk w0 R d { s with left := max i (-1) } (.tuple #[])) := by
  obtain ⟨bd, rfl, h3, h4, hf, hs, _⟩ := hd.set hO
  have hf3 := hf 3
  have hs' := Lib.hid (hs (max i (-1)) (by omega) (by omega))
  clear hs hf hd hO h4
  by_cases h : i < -1
  · rw [show max i (-1) = -1 by omega] at *
    go_enter Try.func11, Try.ntmps11
    go_wp2
    go_end0
    exact ⟨rfl, hs'.out⟩
  · rw [show max i (-1) = i by omega] at *
    go_enter Try.func11, Try.ntmps11
    go_wp2
    go_end0
    exact ⟨rfl, hs'.out⟩
/-- One Write is taken off the limit: the disk then, and was there one? -/
def DSt.spend (s : DSt) : DSt := if s.left = 0 then { s with down := true } else if 0 < s.left then { s with left := s.left - 1 } else s
set_option maxHeartbeats 400000 in
theorem spend_c (hd : IsDisk d s L) (hO : Own w0 w (L ++ R)) :
    Calls Try.prog 19 #[d] w (HasDisk w0 R d s.spend (.bool (decide (s.left ≠ 0)))) := by
  have hsame := Lib.hid hd
  have hok := hd.1.left
  have HO := Lib.hid hO
  obtain ⟨bd, rfl, h3, h4, hf, hs, hb⟩ := hd.set hO
  have hf3 := hf 3
  have hf4 := hf 4
  have hb' := Lib.hid (hb true)
  have hs' := Lib.hid hs
  clear hs hf hd hO hb
  unfold DSt.spend
  by_cases h : s.left = 0
  · rw [if_pos h]
    rw [h] at h3
    go_enter Try.func19, Try.ntmps19
    go_wp2
    go_ret
    exact ⟨by simp [h], hb'.out⟩
  · rw [if_neg h]
    have h' : (s.left == 0) = false := by simp [h]
    by_cases hp : 0 < s.left
    · rw [if_pos hp]
      go_enter Try.func19, Try.ntmps19
      go_wp2
      go_ret
      exact ⟨by simp [h], hs'.out _ (by omega) (by omega)⟩
    · rw [if_neg hp]
      go_enter Try.func19, Try.ntmps19
      go_wp2
      go_ret
      exact ⟨by simp [h], _, hsame.out, HO.out⟩
end
end Go.Proofs.Ytelboocnenaicaa
