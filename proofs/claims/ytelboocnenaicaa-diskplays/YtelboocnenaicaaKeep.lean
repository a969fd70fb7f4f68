/-
  The helps of the statements: Within, Same, Copy, Bytes.
-/
import Derived.Test.YtelboocnenaicaaRows
import Derived.Test.YtelboocnenaicaaLin
namespace Go.Proofs.Ytelboocnenaicaa
set_option linter.unusedVariables false
set_option linter.unusedSimpArgs false
set_option maxRecDepth 20000
open Go.RowKit

theorem emod_neg (v n : Int) (h1 : 1 ≤ n) (h : v.tmod n < 0) : v % n = v.tmod n + n := by
  have h0 : ¬ (0 ≤ v ∨ n ∣ v) := by
    rintro (h' | h')
    · have := Int.tmod_nonneg n h'; omega
    · have := Int.tmod_eq_zero_of_dvd h'; omega
  have := Int.emod_eq_tmod (a := v) (b := n)
  rw [this, if_neg h0]
  omega
theorem emod_pos (v n : Int) (_h1 : 1 ≤ n) (h : ¬ v.tmod n < 0) : v % n = v.tmod n := by
  have := Int.emod_eq_tmod (a := v) (b := n)
  rw [this]
  split
  · omega
  · rename_i h0
    exfalso
    have h2 : v < 0 := by omega
    have h3 : ¬ n ∣ v := fun h' => h0 (.inr h')
    have h4 := Int.tmod_neg v n
    have h5 : 0 ≤ (-v).tmod n := Int.tmod_nonneg _ (by omega)
    have h6 : v.tmod n = - (-v).tmod n := by have := Int.neg_tmod (-v) n; rwa [Int.neg_neg] at this
    have h7 : v.tmod n = 0 := by omega
    exact h3 (Int.dvd_of_tmod_eq_zero h7)
set_option maxHeartbeats 1000000 in
theorem within_c {w : World} (v n : Int) (h1 : 1 ≤ n) (h2 : n ≤ 1000000000) : Calls Try.prog 4 #[.int .i64 v, .int .i64 n] w fun e w' => e = .returned (.int .i64 (v % n)) ∧ w = w' := by
  have hn0 : (n == 0) = false := by simp; omega
  have hb1 : -n < v.tmod n := by have := Int.lt_tmod_of_pos v (show 0 < n by omega); omega
  have hb2 : v.tmod n < n := Int.tmod_lt_of_pos v (by omega)
  by_cases hneg : v.tmod n < 0
  · rw [emod_neg v n h1 hneg]
    go_enter Try.func4, Try.ntmps4
    go_wp2
    go_ret
    exact ⟨rfl, rfl⟩
  · rw [emod_pos v n h1 hneg]
    go_enter Try.func4, Try.ntmps4
    go_wp2
    go_ret
    exact ⟨rfl, rfl⟩
theorem byte_info : (Try.prog.info? 5).map (fun i => (i.zero, i.size, i.bytes)) = some (some (.int .u8 0), 1, 1) := by kernel_rfl
theorem run_make_rowN {P : Program} (t e : TypeId) (i : TypeInfo) (z : Value) (ht : P.underlying t = some (.slice e)) (hi : P.info? e = some i) (hz : i.zero = some z)
    (kl kc : IntKind) (n c : Nat) (hnc : n ≤ c) (hbytes : i.bytes * c ≤ 281474976710656) (h63 : c ≤ 9223372036854775807) (w : World) :
    (Instr.makeSlice t (.int kl (n : Int)) (.int kc (c : Int))).run P w = .ok (.slice (some ⟨w.heap.size, 0, none⟩) n c) (w.alloc (.cells (madeCells z.cells (c * i.size)) e)) := by
  have hb : (i.bytes : Int) * (c : Int) ≤ 281474976710656 := by
    have h : ((i.bytes * c : Nat) : Int) ≤ 281474976710656 := by omega
    rwa [Int.natCast_mul] at h
  have hr := run_make (P := P) w t e i z ht hi hz kl kc n c (by omega) (by omega) hb (by omega)
  simp only [Int.toNat_natCast] at hr
  exact hr
theorem made_replicate (k : Nat) (hk : 0 < k) (z : Value) (n : Nat) : madeCells (List.replicate k z).toArray n = (List.replicate n z).toArray := by
  apply Array.ext'
  apply List.ext_getElem?
  intro j
  have hm : ∀ a, a % k < k := fun a => Nat.mod_lt a hk
  by_cases hj : j < n
  · simp [madeCells, hj, hm]
  · simp [madeCells, hj]
theorem make_bytes (n : Nat) (hn : n ≤ 1073741824) (w : World) : (Instr.makeSlice 27 (.int .i64 (n : Int)) (.int .i64 (n : Int))).run Try.prog w =
    .ok (.slice (some ⟨w.heap.size, 0, none⟩) n n) (w.alloc (.cells (bv (List.replicate n 0)).toArray 5)) := by
  obtain ⟨i0, hi0, hz0, hz1, hz2⟩ := info_parts byte_info
  have := run_make_rowN (P := Try.prog) 27 5 i0 _ Try.underlying27 hi0 hz0 .i64 .i64 n n (Nat.le_refl _) (by rw [hz2]; omega) (by omega) w
  rw [hz1] at this
  have e : madeCells (Value.int .u8 0).cells (n * 1) = (bv (List.replicate n 0)).toArray := by
    rw [Nat.mul_one, bv, List.map_replicate]
    exact made_replicate 1 (by omega) _ n
  rw [this, e]
/-- A byte of Bytes. -/
def pbyte (v : Int) (i : Nat) : Int := wrap64 (v + wrap64 (↑i * bits BinOp.or IntKind.i64 (wrap64 (v.tdiv 5)) 1)) % 256
def pbytes (v : Int) (k : Nat) : List Int := (List.range k).map (pbyte v)
def puntil (v : Int) (k i : Nat) : List Int := (List.range k).map fun j => if j < i then pbyte v j else 0
@[simp] theorem length_pbytes (v : Int) (k : Nat) : (pbytes v k).length = k := by simp [pbytes]
theorem length_puntil (v : Int) (k i : Nat) : (puntil v k i).length = k := by simp [puntil]
theorem puntil_zero (v : Int) (k : Nat) : puntil v k 0 = List.replicate k 0 := by
  apply List.ext_getElem?
  intro j
  by_cases hj : j < k
  · simp [puntil, hj]
  · simp [puntil, hj]
theorem puntil_all (v : Int) (k : Nat) : puntil v k k = pbytes v k := by
  unfold puntil pbytes
  apply List.map_congr_left
  intro j hj
  rw [if_pos (by simpa using hj)]
theorem puntil_set (v : Int) (k i : Nat) : (puntil v k i).set i (pbyte v i) = puntil v k (i + 1) := by
  apply List.ext_getElem?
  intro j
  rw [List.getElem?_set]
  by_cases hj : j < k
  · by_cases hij : i = j
    · subst hij; simp [puntil, hj]
    · by_cases hlt : j < i
      · simp [puntil, hj, hij, hlt, show j < i + 1 by omega]
      · simp [puntil, hj, hij, hlt, show ¬ j < i + 1 by omega]
  · by_cases hij : i = j
    · subst hij; simp [puntil, hj]
    · simp [puntil, hj, hij]
theorem bv_set (xs : List Int) (i : Nat) (x : Int) : (bv xs).toArray.setIfInBounds i (.int .u8 x) = (bv (xs.set i x)).toArray := by simp [bv]
theorem pbyte_range (v : Int) (i : Nat) : 0 ≤ pbyte v i ∧ pbyte v i ≤ 255 := by unfold pbyte; omega
def GotBytes (w0 : World) (R : Blks) (xs : List Int) (e : Ending) (w' : World) : Prop := ∃ v L, e = .returned v ∧ IsBytes v xs L ∧ Own w0 w' (L ++ R)
theorem isBytes_whole (g : Nat) (xs : List Int) (h : xs.length ≤ 1073741824) : IsBytes (.slice (some ⟨g, 0, none⟩) xs.length xs.length) xs [(g, .cells (bv xs).toArray 5)] :=
  ⟨by simp, .inr ⟨g, xs.length, [], rfl, by simp, by simp, Nat.le_refl _, by simp only [maxLen]; omega⟩⟩
set_option maxHeartbeats 1000000 in
theorem bytes_c {w0 w : World} {R : Blks} (hO : Own w0 w R) (v : Int) (k : Nat) (hk : k ≤ 1073741824) : Calls Try.prog 6 #[.int .i64 v, .int .i64 k] w (GotBytes w0 R (pbytes v k)) := by
  have hmk := make_bytes k hk
  have HO := Lib.hid hO
  have hk0 : ¬ ((k : Int) < 0) := by omega
  clear hO
  go_enter Try.func6, Try.ntmps6
  go_wp2_with (refine wl_makeSlice rfl _ _ _ rfl HO.out _ k k (by exact hmk _) ?_; intro g w1 hO1; have HO1 := Lib.hid hO1; clear hO1 HO)
  go_loopw [12] (fun t w' => ∃ i : Nat, i ≤ k ∧ t = .int .i64 i ∧ Hid (Own w0 w' ((g, .cells (bv (puntil v k i)).toArray 5) :: R))) (fun t _ => k - (intOf t).toNat)
  case atStart => exact ⟨0, Nat.zero_le _, rfl, by rw [puntil_zero]; exact HO1.out⟩
  case round =>
    obtain ⟨i, hi, rfl, HO2⟩ := hrel
    clear HO1
    by_cases hlt : i < k
    · go_wp2_with (refine wl_store1 rfl _ _ _ rfl HO2.out 0 g i _ (.int .u8 (pbyte v i)) _ rfl (by rfl) (by rfl) (by rfl) (by kernel_rfl) (by rfl) (by simp [length_puntil]; omega) ?_; intro w3 hO3; rw [bv_set, puntil_set] at hO3; have HO3 := Lib.hid hO3; clear hO3)
      go_roundw
      case rel => exact ⟨i + 1, by omega, by go_num, HO3.out⟩
      case measure => simp [intOf]; omega
    · obtain rfl : i = k := by omega
      have hO3 := HO2.out
      rw [puntil_all] at hO3
      have HO3 := Lib.hid hO3
      clear HO2 hO3 hmk
      go_wp2
      go_ret
      refine ⟨_, [_], rfl, ?_, HO3.out⟩
      have := isBytes_whole g (pbytes v i) (by simpa using hk)
      rwa [length_pbytes] at this

theorem bytes32_c {w0 w : World} {R : Blks} (hO : Own w0 w R) (v : Int) : Calls Try.prog 6 #[.int .i64 v, .int .i64 32] w (GotBytes w0 R (pbytes v 32)) := by
  have := bytes_c hO v 32 (by omega)
  rwa [show (((32 : Nat) : Int)) = 32 from rfl] at this
/-- The world but for the draws. -/
def Quiet (w : World) (v : Value) (e : Ending) (w' : World) : Prop := e = .returned v ∧ ∃ m, w' = w.drewN m
theorem take_succ_eq {α : Type} {xs ys : List α} {k : Nat} (h : xs.take k = ys.take k) (hx : k < xs.length) (hy : k < ys.length) (e : xs[k] = ys[k]) : xs.take (k + 1) = ys.take (k + 1) := by
  rw [List.take_succ_eq_append_getElem hx, List.take_succ_eq_append_getElem hy, h, e]
set_option maxHeartbeats 1000000 in
theorem same_c {w : World} (va vb : Value) (xs ys : List Int) (ha : Bs w va xs) (hb : Bs w vb ys) (hx : xs.length ≤ 1073741824) : Calls Try.prog 9 #[va, vb] w (Quiet w (.bool (decide (xs = ys)))) := by
  obtain ⟨A, n, c, rfl, hn, _, hA⟩ := ha
  obtain ⟨B, m, d, rfl, hm, _, hB⟩ := hb
  have HN := Lib.hid hn
  have HM := Lib.hid hm
  have HA := Lib.hid hA
  have HB := Lib.hid hB
  have hx' : n ≤ 1073741824 := by omega
  by_cases hnm : n = m
  · subst hnm
    have hne : ((n : Int) != n) = false := by simp
    clear hn hm hA hB hx
    go_enter Try.func9, Try.ntmps9
    go_wp2
    go_loopw [5] (fun t w' => ∃ k : Nat, k ≤ n ∧ t = .int .i64 k ∧ Hid (xs.take k = ys.take k) ∧ Hid (∃ q, w' = w.drewN q)) (fun t _ => n - (intOf t).toNat)
    case atStart => exact ⟨0, Nat.zero_le _, rfl, rfl, 0, rfl⟩
    case round =>
      obtain ⟨k, hk, rfl, HT, HW⟩ := hrel
      by_cases hlt : k < n
      · have hkx : k < xs.length := by rw [HN.out]; exact hlt
        have hky : k < ys.length := by rw [HM.out]; exact hlt
        obtain ⟨ad, rfl, hca⟩ := HA.out (by omega)
        obtain ⟨bd, rfl, hcb⟩ := HB.out (by omega)
        have hca' : wr.cell? (ad.add k) = some (.int .u8 xs[k]) := by obtain ⟨q, rfl⟩ := HW.out; exact hca k _ (List.getElem?_eq_getElem hkx)
        have hcb' : wr.cell? (bd.add k) = some (.int .u8 ys[k]) := by obtain ⟨q, rfl⟩ := HW.out; exact hcb k _ (List.getElem?_eq_getElem hky)
        clear hca hcb HA HB
        have HXK := Lib.hid hkx
        have HYK := Lib.hid hky
        have hstep : xs[k] = ys[k] → xs.take (k + 1) = ys.take (k + 1) := fun e => take_succ_eq HT.out hkx hky e
        have hdiff : xs[k] ≠ ys[k] → xs ≠ ys := fun e h => e (by subst h; rfl)
        have HS := Lib.hid hstep
        have HD := Lib.hid hdiff
        clear hstep hdiff
        generalize hxe : xs[k] = a at *
        generalize hye : ys[k] = b at *
        clear hxe hye hkx hky
        have hk0 : (0 : Int) ≤ k := by omega
        have hkn : (k : Int) < n := by omega
        by_cases hab : a = b
        · have hab' : (a != b) = false := by simp [hab]
          have HAB := Lib.hid hab
          clear hab
          go_wp2
          refine wp_region_lin (fun w' => w' = wr.drew) 9 [(0, true), (1, true), (2, true), (3, true), (4, true), (5, true), (6, true), (7, true), (8, true)] (by kernel_rfl) (by kernel_rfl) (fun _ _ d _ _ h => by cases d <;> exact h) rfl ?_
          simp only [List.map_cons, List.map_nil, pick_zero, pick_succ, List.drop_succ_cons, List.drop_zero]
          iterate 9 (refine lin_q ?_ rfl ?_ ?_; rotate_left 1; (focus (rintro w' rfl; go_simp; try with_reducible rfl)); simp only [Act.put, List.setIfInBounds_toArray, List.set_cons_zero, List.set_cons_succ])
          refine lin_nil ?_
          go_wp2
          go_roundw
          case rel => exact ⟨k + 1, by omega, by go_num, HS.out HAB.out, by obtain ⟨q, e⟩ := HW.out; exact ⟨q + 1, by rw [e]; rfl⟩⟩
          case measure => simp [intOf]; omega
        · have hab' : (a != b) = true := by simp [hab]
          have HAB := Lib.hid hab
          clear hab
          go_wp2
          refine wp_region_lin (fun w' => w' = wr.drew) 9 [(0, true), (1, true), (2, true), (3, true), (4, true), (5, true), (6, true), (7, true), (8, true)] (by kernel_rfl) (by kernel_rfl) (fun _ _ d _ _ h => by cases d <;> exact h) rfl ?_
          simp only [List.map_cons, List.map_nil, pick_zero, pick_succ, List.drop_succ_cons, List.drop_zero]
          iterate 9 (refine lin_q ?_ rfl ?_ ?_; rotate_left 1; (focus (rintro w' rfl; go_simp; try with_reducible rfl)); simp only [Act.put, List.setIfInBounds_toArray, List.set_cons_zero, List.set_cons_succ])
          refine lin_nil ?_
          go_wp2
          go_ret
          refine ⟨?_, by obtain ⟨q, e⟩ := HW.out; exact ⟨q + 1, by rw [e]; rfl⟩⟩
          rw [decide_eq_false (HD.out HAB.out)]; rfl
      · obtain rfl : k = n := by omega
        have hT := HT.out
        rw [List.take_of_length_le (by rw [HN.out]; exact Nat.le_refl _), List.take_of_length_le (by rw [HM.out]; exact Nat.le_refl _)] at hT
        have HT' := Lib.hid hT
        clear hT HA HB HT
        go_wp2
        go_ret
        refine ⟨?_, HW.out⟩
        rw [decide_eq_true HT'.out]; rfl
  · have hne : ((n : Int) != m) = true := by rw [bne_iff_ne]; omega
    have hd : decide (xs = ys) = false := decide_eq_false (fun e => by subst e; omega)
    rw [hd]
    clear hn hm hA hB hx hnm hd
    go_enter Try.func9, Try.ntmps9
    go_wp2
    go_ret
    exact ⟨rfl, 0, rfl⟩
theorem within_n {w : World} (v n : Int) (h1 : 1 ≤ n) (h2 : n ≤ 1000000000) : Calls Try.prog 4 #[.int .i64 v, .int .i64 n] w fun e w' => e = .returned (.int .i64 (((v % n).toNat : Nat) : Int)) ∧ w = w' := by
  have := Int.emod_nonneg v (show n ≠ 0 by omega)
  rw [Int.toNat_of_nonneg this]
  exact within_c v n h1 h2
theorem Rd.front {w0 : World} {R : Blks} {A : Option Addr} {n c : Nat} {xs : List Int} (h : Rd w0 R (.slice A n c) xs) (m : Nat) (hm : m ≤ n) : Rd w0 R (.slice A m c) (xs.take m) := by
  intro w' L' hO
  obtain ⟨A', n', c2, e, hn, hc, hA⟩ := h w' L' hO
  cases e
  refine ⟨_, _, _, rfl, by simp; omega, by omega, fun h0 => ?_⟩
  obtain ⟨ad', rfl, hcell⟩ := hA (by omega)
  refine ⟨ad', rfl, fun j x hx => ?_⟩
  have hj : j < m := by have := (List.getElem?_eq_some_iff.1 hx).1; simp at this; omega
  rw [List.getElem?_take_of_lt hj] at hx
  exact hcell j x hx
end Go.Proofs.Ytelboocnenaicaa
