/-
  Package log: newest.
-/
import Derived.Test.YtdndkapfaiplnaaLog3
import Derived.Test.YtdndkapfaiplnaaTree
import Derived.Deep.DeepCutAuto
namespace Go.Proofs.Ytdndkapfaiplnaa
set_option linter.unusedVariables false
set_option linter.unusedSimpArgs false
set_option maxRecDepth 20000
open Go.RowKit

/-- The newest of the first i slots: it, its sector, is there one? -/
def newTo (F : List (List Int)) : Nat → Slot × Int × Bool
  | 0 => (noSlot, 0, false)
  | i + 1 => if (slotR (F.getD i [])).2 = true ∧ ((newTo F i).2.2 = false ∨ (newTo F i).1.num < (slotR (F.getD i [])).1.num) then ((slotR (F.getD i [])).1, (i : Int), true) else newTo F i
theorem newTo_yes (F : List (List Int)) (i : Nat) (h : (slotR (F.getD i [])).2 = true) (h2 : (newTo F i).2.2 = false ∨ (newTo F i).1.num < (slotR (F.getD i [])).1.num) : newTo F (i + 1) = ((slotR (F.getD i [])).1, (i : Int), true) := by rw [newTo, if_pos ⟨h, h2⟩]
theorem newTo_no (F : List (List Int)) (i : Nat) (h : (slotR (F.getD i [])).2 = false ∨ ((newTo F i).2.2 = true ∧ ¬ (newTo F i).1.num < (slotR (F.getD i [])).1.num)) : newTo F (i + 1) = newTo F i := by
  rw [newTo, if_neg]
  rintro ⟨h1, h2⟩
  rcases h with h | ⟨h, h'⟩
  · rw [h] at h1; cases h1
  · rcases h2 with h2 | h2
    · rw [h] at h2; cases h2
    · exact h' h2
def GotNew (w0 : World) (R : Blks) (d : Value) (s : DSt) (t : Slot) (a r : Int) (e : Ending) (w' : World) : Prop := e = .returned (.tuple #[.agg (slv t).toArray, .int .i64 a, .int .i64 r]) ∧ ∃ L, IsDisk d s L ∧ Own w0 w' (L ++ R)
def NewTo (w0 : World) (R : Blks) (d : Value) (s : DSt) (g i : Nat) (v3 v5 : Value) (wx : World) : Prop :=
  ∃ L, IsDisk d s L ∧ v3 = .int .i64 (newTo s.la i).2.1 ∧ v5 = .bool (newTo s.la i).2.2 ∧ Own w0 wx ((g, .cells (slv (newTo s.la i).1).toArray 75) :: (L ++ R))
section
variable {w0 w : World} {R L : Blks} {d : Value} {s : DSt}
set_option maxHeartbeats 4000000 in
theorem newest_down (hd : IsDisk d s L) (hO : Own w0 w (L ++ R)) (hdn : s.down = true) : Calls Try.prog 44 #[d] w (GotNew w0 R d s noSlot 0 8) := by
  have HO := Lib.hid hO; have HD := Lib.hid hd; have HN := Lib.hid hdn
  clear hO hd hdn
  go_enter Try.func44, Try.ntmps44
  go_wp2_with (refine wl_alloc rfl _ rfl HO.out _ (alloc_slot _) ?_; intro g w1 hO1; have HO1 := Lib.hid hO1; clear hO1 HO)
  go_loopw [11] (fun t w' => t = .int .i64 0 ∧ w' = w1) (fun _ _ => 0)
  case atStart => exact ⟨rfl, rfl⟩
  case round =>
    obtain ⟨rfl, rfl⟩ := hrel
    go_wp2_with fail
    have hcall := read_no HD.out (Own.rot (A := [_]) HO1.out) 0 8 (refuse8 HN.out) (by omega)
    with_reducible refine hcall.mono ?_
    clear hcall
    rintro en w2 ⟨v2, L2, L3, rfl, hd3, hO2, -⟩
    have HO2 := Lib.hid (Own.rot (B := [_]) hO2.right); have HD3 := Lib.hid hd3
    clear hO2 hd3 HO1 HD
    go_wp2_with (first | (refine wl_build rfl _ _ rfl _ (by exact build_slot0 _) ?_) | (refine wl_store rfl _ _ _ rfl HO2.out 0 g 0 _ (slv noSlot) _ rfl (by rfl) (by rfl) (slot_size _) (one_slv _) (by simp [slv]) ?_; intro w3 hO3; have HO3 := Lib.hid hO3; clear hO3 HO2))
    have hO8 : Own w0 w3 ((g, .cells (slv noSlot).toArray 75) :: (L3 ++ R)) := HO3.out
    obtain ⟨d0, d1, d2, d3, d4⟩ := slot_cells hO8 (.head _)
    exact bodyPost_ret (v := .tuple #[.agg (slv noSlot).toArray, .int .i64 0, .int .i64 8]) (by simp [results, Try.results44, go_sem, d0, d1, d2, d3, d4, slv, noSlot]) rfl ⟨rfl, L3, HD3.out, hO8.tail⟩
set_option maxHeartbeats 4000000 in
theorem newest_c (hd : IsDisk d s L) (hO : Own w0 w (L ++ R)) (hdn : s.down = false) (hn : 2 ≤ s.n) (hB : ∀ j : Nat, Byt (s.la.getD j [])) :
    Calls Try.prog 44 #[d] w (fun e w' => ((newTo s.la 2).2.2 = true ∧ GotNew w0 R d s (newTo s.la 2).1 (newTo s.la 2).2.1 0 e w') ∨ ((newTo s.la 2).2.2 = false ∧ GotNew w0 R d s noSlot 0 3 e w')) := by
  have HO := Lib.hid hO; have HD := Lib.hid hd; have HN := Lib.hid hdn; have HB := Lib.hid hB
  have HY := Lib.hid (newTo_yes s.la); have HNO := Lib.hid (newTo_no s.la)
  clear hO hd hdn hB
  go_enter Try.func44, Try.ntmps44
  go_wp2_with (refine wl_alloc rfl _ rfl HO.out _ (alloc_slot _) ?_; intro g w1 hO1; have HO1 := Lib.hid hO1; clear hO1 HO)
  go_loopg [3, 5, 11] 2 (fun gg v3 v5 v11 wx => ∃ i : Nat, i ≤ 2 ∧ gg = 2 - i ∧ v11 = .int .i64 i ∧ NewTo w0 R d s g i v3 v5 wx)
  case atStart => exact ⟨0, by omega, rfl, rfl, L, HD.out, rfl, rfl, HO1.out⟩
  case round =>
    obtain ⟨i, hi, rfl, rfl, Li, hdi, rfl, rfl, hOi⟩ := hrel
    clear HO1 HD
    obtain ⟨⟨best, at_, fnd⟩, hbst⟩ : ∃ p, newTo s.la i = p := ⟨_, rfl⟩
    rw [hbst] at hOi ⊢
    have HBST := Lib.hid hbst; have HOI := Lib.hid hOi; have HDI := Lib.hid hdi
    clear hbst hOi hdi
    simp only at HOI
    simp only
    by_cases hlt : i < 2
    · have hrf : s.refuse (i : Int) = 0 := refuse0 HN.out (by omega) (by omega)
      have hbt := HB.out i
      have hre := read_ok HDI.out (Own.rot (A := [_]) HOI.out) (i : Int) _ hrf rfl
      rw [Int.toNat_natCast] at hre
      have hyes := HY.out i; have hno := HNO.out i
      rw [HBST.out] at hyes hno
      simp only at hyes hno
      generalize s.la.getD i [] = ys at *
      have HRE := Lib.hid hre; have HBT := Lib.hid hbt; have HYES := Lib.hid hyes; have HNOO := Lib.hid hno
      clear hre hbt hyes hno hrf HY HNO
      have hiI : (i : Int) < 2 := by omega
      go_wp2_with fail
      with_reducible refine HRE.out.mono ?_
      clear HRE
      rintro en w2 ⟨v2, L2, L3, rfl, hd3, hO2, h2⟩
      have HO2 := Lib.hid hO2; have HD3 := Lib.hid hd3; have H2 := Lib.hid h2
      clear hO2 hd3 HOI HDI h2
      go_wp2_with fail
      have hcall := slotOf_c HO2.out v2 ys (H2.out.rd sub_here) HBT.out
      with_reducible refine hcall.mono ?_
      clear hcall
      rintro en w3 ⟨rfl, hO3⟩
      generalize slotR ys = st at *
      obtain ⟨t, ok⟩ := st
      simp only at HYES HNOO
      simp only []
      have HO3 := Lib.hid (Own.rot (B := [_]) hO3.right)
      clear hO3 HO2 H2
      have hcs := slot_cells (t := best) HO3.out (.head _)
      have HCS := Lib.hid hcs
      clear hcs
      cases ok
      · have hnx := HNOO.out (.inl rfl)
        have HNX := Lib.hid hnx
        clear hnx HYES HNOO HCS
        go_wp2_with (first | (refine wl_alloc rfl _ rfl HO3.out _ (alloc_slot _) ?_; intro g9 w4 hO4; have HO4 := Lib.hid hO4; clear hO4 HO3) | (refine wl_store rfl _ _ _ rfl HO4.out 0 g9 0 _ (slv t) _ rfl (by rfl) (by rfl) (slot_size _) (one_slv _) (by simp [slv]) ?_; intro w5 hO5; have HO5 := Lib.hid hO5; clear hO5 HO4))
        go_roundg (2 - (i + 1))
        case rel => exact ⟨i + 1, by omega, rfl, by go_num, L3, HD3.out, by rw [HNX.out], by rw [HNX.out], by rw [HNX.out]; exact HO5.out.tail⟩
        case measure => omega
      · cases fnd
        · have hnx := HYES.out rfl (.inl rfl)
          have HNX := Lib.hid hnx
          clear hnx HYES HNOO HCS
          go_wp2_with (first | (refine wl_alloc rfl _ rfl HO3.out _ (alloc_slot _) ?_; intro g9 w4 hO4; have HO4 := Lib.hid hO4; clear hO4 HO3) | (refine wl_store rfl _ _ _ rfl HO4.out 0 g9 0 _ (slv t) _ rfl (by rfl) (by rfl) (slot_size _) (one_slv _) (by simp [slv]) ?_; intro w5 hO5; have HO5 := Lib.hid hO5; clear hO5 HO4) | (refine wl_load rfl _ _ rfl g9 0 (slv t) (slv t) _ (HO5.out.heap (.head _)) (by rfl) _ Try.underlying75 rfl (slot_size t) (by rfl) ?_) | (refine wl_store rfl _ _ _ rfl HO5.out 1 g 0 _ (slv t) _ rfl (by rfl) (by rfl) (slot_size _) (one_slv _) (by simp [slv]) ?_; intro w6 hO6; have HO6 := Lib.hid hO6; clear hO6 HO5))
          go_roundg (2 - (i + 1))
          case rel => exact ⟨i + 1, by omega, rfl, by go_num, L3, HD3.out, by rw [HNX.out], by rw [HNX.out], by rw [HNX.out]; exact HO6.out.tail⟩
          case measure => omega
        · by_cases hbt2 : best.num < t.num
          · have hnx := HYES.out rfl (.inr hbt2)
            have HNX := Lib.hid hnx
            clear hnx HYES HNOO HCS
            go_wp2_with (first | (refine wl_alloc rfl _ rfl HO3.out _ (alloc_slot _) ?_; intro g9 w4 hO4; have HO4 := Lib.hid hO4; clear hO4 HO3) | (refine wl_store rfl _ _ _ rfl HO4.out 0 g9 0 _ (slv t) _ rfl (by rfl) (by rfl) (slot_size _) (one_slv _) (by simp [slv]) ?_; intro w5 hO5; have p0 := (slot_cells (t := t) hO5 (.head _)).1; have q0 := (slot_cells (t := best) hO5 (.tail _ (.head _))).1; have HO5 := Lib.hid hO5; clear hO5 HO4) | (refine wl_load rfl _ _ rfl g9 0 (slv t) (slv t) _ (HO5.out.heap (.head _)) (by rfl) _ Try.underlying75 rfl (slot_size t) (by rfl) ?_) | (refine wl_store rfl _ _ _ rfl HO5.out 1 g 0 _ (slv t) _ rfl (by rfl) (by rfl) (slot_size _) (one_slv _) (by simp [slv]) ?_; intro w6 hO6; have HO6 := Lib.hid hO6; clear hO6 HO5))
            go_roundg (2 - (i + 1))
            case rel => exact ⟨i + 1, by omega, rfl, by go_num, L3, HD3.out, by rw [HNX.out], by rw [HNX.out], by rw [HNX.out]; exact HO6.out.tail⟩
            case measure => omega
          · have hnx := HNOO.out (.inr ⟨rfl, by omega⟩)
            have HNX := Lib.hid hnx
            clear hnx HYES HNOO HCS
            go_wp2_with (first | (refine wl_alloc rfl _ rfl HO3.out _ (alloc_slot _) ?_; intro g9 w4 hO4; have HO4 := Lib.hid hO4; clear hO4 HO3) | (refine wl_store rfl _ _ _ rfl HO4.out 0 g9 0 _ (slv t) _ rfl (by rfl) (by rfl) (slot_size _) (one_slv _) (by simp [slv]) ?_; intro w5 hO5; have p0 := (slot_cells (t := t) hO5 (.head _)).1; have q0 := (slot_cells (t := best) hO5 (.tail _ (.head _))).1; have HO5 := Lib.hid hO5; clear hO5 HO4))
            go_roundg (2 - (i + 1))
            case rel => exact ⟨i + 1, by omega, rfl, by go_num, L3, HD3.out, by rw [HNX.out], by rw [HNX.out], by rw [HNX.out]; exact HO5.out.tail⟩
            case measure => omega
    · obtain rfl : i = 2 := by omega
      cases fnd
      · go_wp2_with (first | (refine wl_build rfl _ _ rfl _ (by exact build_slot0 _) ?_) | (refine wl_store rfl _ _ _ rfl HOI.out 0 g 0 _ (slv noSlot) _ rfl (by rfl) (by rfl) (slot_size _) (one_slv _) (by simp [slv]) ?_; intro w3 hO3; have HO3 := Lib.hid hO3; clear hO3 HOI))
        have hO8 : Own w0 w3 ((g, .cells (slv noSlot).toArray 75) :: (Li ++ R)) := HO3.out
        obtain ⟨d0, d1, d2, d3, d4⟩ := slot_cells hO8 (.head _)
        exact bodyPost_ret (v := .tuple #[.agg (slv noSlot).toArray, .int .i64 0, .int .i64 3]) (by simp [results, Try.results44, go_sem, d0, d1, d2, d3, d4, slv, noSlot]) rfl (.inr ⟨by rw [HBST.out], rfl, Li, HDI.out, hO8.tail⟩)
      · go_wp2_with (first | (refine wl_load rfl _ _ rfl g 0 (slv best) (slv best) _ (HOI.out.heap (.head _)) (by rfl) _ Try.underlying75 rfl (slot_size best) (by rfl) ?_) | (refine wl_store rfl _ _ _ rfl HOI.out 0 g 0 _ (slv best) _ rfl (by rfl) (by rfl) (slot_size _) (one_slv _) (by simp [slv]) ?_; intro w3 hO3; have HO3 := Lib.hid hO3; clear hO3 HOI))
        have hO8 : Own w0 w3 ((g, .cells (slv best).toArray 75) :: (Li ++ R)) := HO3.out
        obtain ⟨d0, d1, d2, d3, d4⟩ := slot_cells hO8 (.head _)
        exact bodyPost_ret (v := .tuple #[.agg (slv best).toArray, .int .i64 at_, .int .i64 0]) (by simp [results, Try.results44, go_sem, d0, d1, d2, d3, d4, slv]) rfl (.inl ⟨by rw [HBST.out], by rw [HBST.out]; exact ⟨rfl, Li, HDI.out, hO8.tail⟩⟩)
end
end Go.Proofs.Ytdndkapfaiplnaa
