/-
  Package code: cut.
-/
import Derived.Test.YtpapbmamkggfhaaCode3
import Derived.Laws.BitsLemmas
namespace Go.Proofs.Ytpapbmamkggfhaa
set_option linter.unusedVariables false
set_option linter.unusedSimpArgs false
set_option maxRecDepth 20000
open Go.RowKit

theorem wraps_u64 (n : Int) (h0 : 0 ≤ n) (h1 : n < 2 ^ 64) : IntKind.u64.wrap n = n := by rw [u64w]; omega
theorem joinq (x y : Int) (h0 : 0 ≤ x) (hm : x % 256 = 0) (h1 : x < 18446744073709551616) (h2 : 0 ≤ y) (h3 : y < 256) : bits .or .u64 x y = x + y :=
  bits_join .u64 64 (by decide) wraps_u64 8 x y h0 hm h1 h2 h3 (by omega)
/-- The number whose bytes these are, the greatest first. -/
def numB (xs : List Int) : Int := xs.foldl (fun u c => u * 256 + c) 0
theorem numB_snoc (xs : List Int) (c : Int) : numB (xs ++ [c]) = numB xs * 256 + c := by simp [numB]
theorem numB_from : ∀ (xs : List Int) (u m : Int), Byt xs → 0 ≤ u → u < m → 0 ≤ xs.foldl (fun u c => u * 256 + c) u ∧ xs.foldl (fun u c => u * 256 + c) u < m * 256 ^ xs.length
  | [], u, m, _, h0, h1 => by simpa using ⟨h0, h1⟩
  | c :: xs, u, m, h, h0, h1 => by
    have hc := h c (.head _)
    have ih := numB_from xs (u * 256 + c) (m * 256) (fun x hx => h x (.tail _ hx)) (by omega) (by omega)
    simp only [List.foldl_cons, List.length_cons]
    rw [Int.pow_succ, Int.mul_comm (256 ^ xs.length) 256, ← Int.mul_assoc]
    exact ih
theorem numB_bounds {xs : List Int} (h : Byt xs) : 0 ≤ numB xs ∧ numB xs < 256 ^ xs.length := by
  have := numB_from xs 0 1 h (by omega) (by omega)
  rwa [Int.one_mul] at this
theorem numB_lt7 {xs : List Int} (h : Byt xs) (hl : xs.length ≤ 7) : 0 ≤ numB xs ∧ numB xs < 72057594037927936 := by
  have h1 := numB_bounds h
  have h2 : (256 : Int) ^ xs.length ≤ 256 ^ 7 := by
    have : (256 : Nat) ^ xs.length ≤ 256 ^ 7 := Nat.pow_le_pow_right (by omega) hl
    have h3 : ((256 ^ xs.length : Nat) : Int) ≤ ((256 ^ 7 : Nat) : Int) := by exact_mod_cast this
    simpa using h3
  omega
/-- The first value of bytes, and what is behind it. -/
def dec1 : List Int → Option (AV × List Int)
  | [] => none
  | c :: r =>
    if c = 105 then (if r.length < 8 then none else some (.i (IntKind.i64.wrap (numB (r.take 8))), r.drop 8))
    else if c = 115 then (match r with
      | [] => none
      | m :: q => if (q.length : Int) < m then none else some (.s (strOfNums (q.take m.toNat)), q.drop m.toNat))
    else if c = 116 then some (.f true, r)
    else if c = 102 then some (.f false, r)
    else none
theorem rd_nil {w0 : World} {R : Blks} (A : Option Addr) (c : Nat) : Rd w0 R (.slice A 0 c) [] := fun w' L' hO => ⟨_, _, _, rfl, rfl, Nat.zero_le _, fun h => absurd h (by omega)⟩
theorem rd_tail {w0 : World} {R : Blks} {ad : Addr} {n c : Nat} {xs : List Int} (h : Rd w0 R (.slice (some ad) n c) xs) (k m c' : Nat) (hk : 0 < k) (hl : k + m ≤ n) (hc : m ≤ c') : Rd w0 R (.slice (some ⟨ad.block, ad.off + k, none⟩) m c') ((xs.drop k).take m) := by
  intro w' L' hO
  obtain ⟨A, n', c2, e, hn, _, hA⟩ := h w' L' hO
  cases e
  refine ⟨_, _, _, rfl, by simp; omega, hc, fun h0 => ⟨_, rfl, fun j x hx => ?_⟩⟩
  obtain ⟨ad', e, hcell⟩ := hA (by omega)
  cases e
  have hj : j < m := by have := (List.getElem?_eq_some_iff.1 hx).1; simp at this; omega
  rw [List.getElem?_take_of_lt hj, List.getElem?_drop] at hx
  have := hcell (k + j) x hx
  rw [show (⟨ad.block, ad.off + k, none⟩ : Addr).add j = ad.add (k + j) by
    unfold Addr.add
    rw [if_neg (show ¬ (k + j = 0) by omega)]
    by_cases hj0 : j = 0
    · subst hj0; simp
    · rw [if_neg hj0]; simp [Nat.add_assoc]]
  exact this
/-- What cut answers. -/
def GotCut (w0 w : World) (R : Blks) (o : Option (AV × List Int)) (e : Ending) (w' : World) : Prop :=
  ((∃ a ys v, o = some (a, ys) ∧ e = .returned (.tuple #[a.val, v, .bool true]) ∧ Rd w0 R v ys) ∨ (o = none ∧ e = .returned (.tuple #[.nilIface, .slice none 0 0, .bool false]))) ∧ ∃ q, w' = w.drewN q
def decInt (r : List Int) : Option (AV × List Int) := if r.length < 8 then none else some (.i (IntKind.i64.wrap (numB (r.take 8))), r.drop 8)
def decText : List Int → Option (AV × List Int)
  | [] => none
  | m :: q => if (q.length : Int) < m then none else some (.s (strOfNums (q.take m.toNat)), q.drop m.toNat)
theorem dec1_eq (c : Int) (r : List Int) : dec1 (c :: r) = if c = 105 then decInt r else if c = 115 then decText r else if c = 116 then some (.f true, r) else if c = 102 then some (.f false, r) else none := by
  simp only [dec1, decInt]
  cases r <;> rfl
set_option maxHeartbeats 4000000 in
theorem cutInt_c {w0 w : World} {R : Blks} {v : Value} {xs : List Int} (hO : Own w0 w R) (hv : Rd w0 R v xs) (hB : Byt xs) (hl : xs.length ≤ 1073741824) :
    Calls Try.prog 39 #[v] w (GotCut w0 w R (decInt xs)) := by
  obtain ⟨A, n, c, rfl, hn, hc, hA⟩ := hv w [] hO
  unfold decInt
  by_cases h8 : n < 8
  · rw [if_pos (by omega)]
    have h8' : (n : Int) < 8 := by omega
    clear hA hv hO hn
    go_enter Try.func39, Try.ntmps39
    go_wp2
    go_ret3
    exact ⟨.inr ⟨rfl, rfl⟩, 0, rfl⟩
  · rw [if_neg (by omega)]
    have h8' : ¬ (n : Int) < 8 := by omega
    have hc8 : (8 : Int) ≤ c := by omega
    obtain ⟨ad, rfl, hcell⟩ := hA (by omega)
    have hcell8 : ∀ j, j < 8 → w.cell? (ad.add j) = some (.int .u8 (xs.getD j 0)) := fun j hj => hcell j _ (by rw [List.getD_eq_getElem?_getD, List.getElem?_eq_getElem (by omega)]; rfl)
    have HC := Lib.hid hcell8; have HV := Lib.hid hv; have HB := Lib.hid hB; have HN := Lib.hid hn; have HCC := Lib.hid hc
    clear hA hcell hcell8 hv hO hB hn hc
    go_enter Try.func39, Try.ntmps39
    go_wp2
    go_loopw [5, 14] (fun u t w' => ∃ k : Nat, k ≤ 8 ∧ t = .int .i64 (k : Int) ∧ u = .int .u64 (numB (xs.take k)) ∧ Hid (w' = w)) (fun _ t _ => 8 - (intOf t).toNat)
    case atStart => exact ⟨0, by omega, rfl, rfl, rfl⟩
    case round =>
      obtain ⟨k, hk, rfl, rfl, HW⟩ := hrel
      have hw := HW.out
      subst hw
      clear HW
      by_cases hlt : k < 8
      · have hc1 := HC.out k hlt
        have hkx : k < xs.length := by have := HN.out; omega
        have hb := numB_lt7 (xs := xs.take k) (byt_take HB.out k) (by simp; omega)
        have hx := getD_byt HB.out k
        have hst : numB (xs.take (k + 1)) = numB (xs.take k) * 256 + xs.getD k 0 := by
          rw [List.take_succ_eq_append_getElem hkx, numB_snoc, List.getD_eq_getElem?_getD, List.getElem?_eq_getElem hkx]; rfl
        have hj := joinq (numB (xs.take k) * 256) (xs.getD k 0) (by omega) (by omega) (by omega) (by omega) (by omega)
        rw [← hst] at hj
        have HST := Lib.hid hst
        clear hst hkx
        generalize numB (xs.take k) = u at *
        generalize xs.getD k 0 = x at *
        generalize hu' : numB (xs.take (k + 1)) = u' at *
        have HU := Lib.hid hu'
        clear hu'
        have hk8 : (k : Int) < 8 := by omega
        have hk0 : (0 : Int) ≤ k := by omega
        have hu1 : IntKind.u64.wrap (u * 256) = u * 256 := wraps_u64 _ (by omega) (by omega)
        have hu2 : IntKind.u64.wrap x = x := wraps_u64 _ (by omega) (by omega)
        go_wp2
        go_roundw
        case rel => exact ⟨k + 1, by omega, by go_num, by rw [HU.out], trivial⟩
        case measure => simp [intOf]; omega
      · obtain rfl : k = 8 := by omega
        clear HC
        generalize numB (xs.take 8) = u at *
        by_cases hcc : c = 8
        · subst hcc
          have hn8 : n = 8 := by have := HCC.out; omega
          subst hn8
          go_wp2
          refine wp_region_lin (fun w' => w' = wr.drew) 8 [(0, true), (1, true), (2, true), (3, true), (4, true), (5, true), (6, true), (7, true)] (by kernel_rfl) (by kernel_rfl) (fun _ _ d _ _ h => by cases d <;> exact h) rfl ?_
          simp only [List.map_cons, List.map_nil, pick_zero, pick_succ, List.drop_succ_cons, List.drop_zero]
          iterate 8 (refine lin_q ?_ rfl ?_ ?_; rotate_left 1; (focus (rintro w' rfl; go_simp; first | done | with_reducible rfl | (trace_state; fail))); simp only [Act.put, List.setIfInBounds_toArray, List.set_cons_zero, List.set_cons_succ])
          refine lin_nil ?_
          go_wp2
          go_ret3
          refine ⟨.inl ⟨_, _, _, rfl, rfl, ?_⟩, 1, rfl⟩
          rw [List.drop_eq_nil_of_le (by rw [HN.out]; omega)]
          exact rd_nil _ _
        · have hcc' : ¬ (c = 8) := hcc
          have hcn : ¬ ((c : Int) = 8) := by omega
          go_wp2
          refine wp_region_lin (fun w' => w' = wr.drew) 8 [(0, true), (1, true), (2, true), (3, true), (4, true), (5, true), (6, true), (7, true)] (by kernel_rfl) (by kernel_rfl) (fun _ _ d _ _ h => by cases d <;> exact h) rfl ?_
          simp only [List.map_cons, List.map_nil, pick_zero, pick_succ, List.drop_succ_cons, List.drop_zero]
          iterate 8 (refine lin_q ?_ rfl ?_ ?_; rotate_left 1; (focus (rintro w' rfl; go_simp; first | done | with_reducible rfl | (trace_state; fail))); simp only [Act.put, List.setIfInBounds_toArray, List.set_cons_zero, List.set_cons_succ])
          refine lin_nil ?_
          go_wp2
          go_ret3
          refine ⟨.inl ⟨_, _, _, rfl, rfl, ?_⟩, 1, rfl⟩
          have := rd_tail HV.out 8 (n - 8) (c - 8) (by omega) (by omega) (by have := HCC.out; omega)
          rwa [List.take_of_length_le (by rw [List.length_drop, HN.out]; omega)] at this
end Go.Proofs.Ytpapbmamkggfhaa
