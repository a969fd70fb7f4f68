/-
  The helps of the statements: Within, Same, Copy, Bytes.
-/
import Derived.Test.YtkmfbfmmlldphaaDoorRows
import Derived.Test.YtkmfbfmmlldphaaDoorLin
namespace Go.Proofs.YtkmfbfmmlldphaaDoor
set_option linter.unusedVariables false
set_option linter.unusedSimpArgs false
set_option maxRecDepth 20000
open Go.RowKit

theorem emod_neg (v n : Int) (h1 : 1 ≤ n) (h : v.tmod n < 0) : v % n = v.tmod n + n := by
  have h0 : ¬ (0 ≤ v ∨ n ∣ v) := by
    rintro (h' | h')
    · have := Int.tmod_nonneg n h'; omega
    · have := Int.tmod_eq_zero_of_dvd h'; omega
  have := Int.emod_eq_tmod (a := v) (b := n)
  rw [this, if_neg h0]
  omega
theorem emod_pos (v n : Int) (_h1 : 1 ≤ n) (h : ¬ v.tmod n < 0) : v % n = v.tmod n := by
  have := Int.emod_eq_tmod (a := v) (b := n)
  rw [this]
  split
  · omega
  · rename_i h0
    exfalso
    have h2 : v < 0 := by omega
    have h3 : ¬ n ∣ v := fun h' => h0 (.inr h')
    have h4 := Int.tmod_neg v n
    have h5 : 0 ≤ (-v).tmod n := Int.tmod_nonneg _ (by omega)
    have h6 : v.tmod n = - (-v).tmod n := by have := Int.neg_tmod (-v) n; rwa [Int.neg_neg] at this
    have h7 : v.tmod n = 0 := by omega
    exact h3 (Int.dvd_of_tmod_eq_zero h7)
set_option maxHeartbeats 1000000 in
theorem within_c {w : World} (v n : Int) (h1 : 1 ≤ n) (h2 : n ≤ 1000000000) : Calls Tryd.prog 11 #[.int .i64 v, .int .i64 n] w fun e w' => e = .returned (.int .i64 (v % n)) ∧ w = w' := by
  have hn0 : (n == 0) = false := by simp; omega
  have hb1 : -n < v.tmod n := by have := Int.lt_tmod_of_pos v (show 0 < n by omega); omega
  have hb2 : v.tmod n < n := Int.tmod_lt_of_pos v (by omega)
  by_cases hneg : v.tmod n < 0
  · rw [emod_neg v n h1 hneg]
    go_enter Tryd.func11, Tryd.ntmps11
    go_wp2
    go_ret
    exact ⟨rfl, rfl⟩
  · rw [emod_pos v n h1 hneg]
    go_enter Tryd.func11, Tryd.ntmps11
    go_wp2
    go_ret
    exact ⟨rfl, rfl⟩
theorem byte_info : (Tryd.prog.info? 5).map (fun i => (i.zero, i.size, i.bytes)) = some (some (.int .u8 0), 1, 1) := by kernel_rfl
theorem run_make_rowN {P : Program} (t e : TypeId) (i : TypeInfo) (z : Value) (ht : P.underlying t = some (.slice e)) (hi : P.info? e = some i) (hz : i.zero = some z)
    (kl kc : IntKind) (n c : Nat) (hnc : n ≤ c) (hbytes : i.bytes * c ≤ 281474976710656) (h63 : c ≤ 9223372036854775807) (w : World) :
    (Instr.makeSlice t (.int kl (n : Int)) (.int kc (c : Int))).run P w = .ok (.slice (some ⟨w.heap.size, 0, none⟩) n c) (w.alloc (.cells (madeCells z.cells (c * i.size)) e)) := by
  have hb : (i.bytes : Int) * (c : Int) ≤ 281474976710656 := by
    have h : ((i.bytes * c : Nat) : Int) ≤ 281474976710656 := by omega
    rwa [Int.natCast_mul] at h
  have hr := run_make (P := P) w t e i z ht hi hz kl kc n c (by omega) (by omega) hb (by omega)
  simp only [Int.toNat_natCast] at hr
  exact hr
theorem made_replicate (k : Nat) (hk : 0 < k) (z : Value) (n : Nat) : madeCells (List.replicate k z).toArray n = (List.replicate n z).toArray := by
  apply Array.ext'
  apply List.ext_getElem?
  intro j
  have hm : ∀ a, a % k < k := fun a => Nat.mod_lt a hk
  by_cases hj : j < n
  · simp [madeCells, hj, hm]
  · simp [madeCells, hj]
theorem make_bytes (n : Nat) (hn : n ≤ 1073741824) (w : World) : (Instr.makeSlice 49 (.int .i64 (n : Int)) (.int .i64 (n : Int))).run Tryd.prog w =
    .ok (.slice (some ⟨w.heap.size, 0, none⟩) n n) (w.alloc (.cells (bv (List.replicate n 0)).toArray 5)) := by
  obtain ⟨i0, hi0, hz0, hz1, hz2⟩ := info_parts byte_info
  have := run_make_rowN (P := Tryd.prog) 49 5 i0 _ Tryd.underlying49 hi0 hz0 .i64 .i64 n n (Nat.le_refl _) (by rw [hz2]; omega) (by omega) w
  rw [hz1] at this
  have e : madeCells (Value.int .u8 0).cells (n * 1) = (bv (List.replicate n 0)).toArray := by
    rw [Nat.mul_one, bv, List.map_replicate]
    exact made_replicate 1 (by omega) _ n
  rw [this, e]
/-- A byte of Bytes. -/
def pbyte (v : Int) (i : Nat) : Int := wrap64 (v + wrap64 (↑i * bits BinOp.or IntKind.i64 (wrap64 (v.tdiv 5)) 1)) % 256
def pbytes (v : Int) (k : Nat) : List Int := (List.range k).map (pbyte v)
def puntil (v : Int) (k i : Nat) : List Int := (List.range k).map fun j => if j < i then pbyte v j else 0
@[simp] theorem length_pbytes (v : Int) (k : Nat) : (pbytes v k).length = k := by simp [pbytes]
theorem length_puntil (v : Int) (k i : Nat) : (puntil v k i).length = k := by simp [puntil]
theorem puntil_zero (v : Int) (k : Nat) : puntil v k 0 = List.replicate k 0 := by
  apply List.ext_getElem?
  intro j
  by_cases hj : j < k
  · simp [puntil, hj]
  · simp [puntil, hj]
theorem puntil_all (v : Int) (k : Nat) : puntil v k k = pbytes v k := by
  unfold puntil pbytes
  apply List.map_congr_left
  intro j hj
  rw [if_pos (by simpa using hj)]
theorem puntil_set (v : Int) (k i : Nat) : (puntil v k i).set i (pbyte v i) = puntil v k (i + 1) := by
  apply List.ext_getElem?
  intro j
  rw [List.getElem?_set]
  by_cases hj : j < k
  · by_cases hij : i = j
    · subst hij; simp [puntil, hj]
    · by_cases hlt : j < i
      · simp [puntil, hj, hij, hlt, show j < i + 1 by omega]
      · simp [puntil, hj, hij, hlt, show ¬ j < i + 1 by omega]
  · by_cases hij : i = j
    · subst hij; simp [puntil, hj]
    · simp [puntil, hj, hij]
theorem bv_set (xs : List Int) (i : Nat) (x : Int) : (bv xs).toArray.setIfInBounds i (.int .u8 x) = (bv (xs.set i x)).toArray := by simp [bv]
theorem pbyte_range (v : Int) (i : Nat) : 0 ≤ pbyte v i ∧ pbyte v i ≤ 255 := by unfold pbyte; omega
def GotBytes (w0 : World) (R : Blks) (xs : List Int) (e : Ending) (w' : World) : Prop := ∃ v L, e = .returned v ∧ IsBytes v xs L ∧ Own w0 w' (L ++ R)
theorem isBytes_whole (g : Nat) (xs : List Int) (h : xs.length ≤ 1073741824) : IsBytes (.slice (some ⟨g, 0, none⟩) xs.length xs.length) xs [(g, .cells (bv xs).toArray 5)] :=
  ⟨by simp, .inr ⟨g, xs.length, [], rfl, by simp, by simp, Nat.le_refl _, by simp only [maxLen]; omega⟩⟩
set_option maxHeartbeats 1000000 in
theorem bytes_c {w0 w : World} {R : Blks} (hO : Own w0 w R) (v : Int) (k : Nat) (hk : k ≤ 1073741824) : Calls Tryd.prog 36 #[.int .i64 v, .int .i64 k] w (GotBytes w0 R (pbytes v k)) := by
  have hmk := make_bytes k hk
  have HO := Lib.hid hO
  have hk0 : ¬ ((k : Int) < 0) := by omega
  clear hO
  go_enter Tryd.func36, Tryd.ntmps36
  go_wp2_with (refine wl_makeSlice rfl _ _ _ rfl HO.out _ k k (by exact hmk _) ?_; intro g w1 hO1; have HO1 := Lib.hid hO1; clear hO1 HO)
  go_loopw [12] (fun t w' => ∃ i : Nat, i ≤ k ∧ t = .int .i64 i ∧ Hid (Own w0 w' ((g, .cells (bv (puntil v k i)).toArray 5) :: R))) (fun t _ => k - (intOf t).toNat)
  case atStart => exact ⟨0, Nat.zero_le _, rfl, by rw [puntil_zero]; exact HO1.out⟩
  case round =>
    obtain ⟨i, hi, rfl, HO2⟩ := hrel
    clear HO1
    by_cases hlt : i < k
    · go_wp2_with (refine wl_store1 rfl _ _ _ rfl HO2.out 0 g i _ (.int .u8 (pbyte v i)) _ rfl (by rfl) (by rfl) (by rfl) (by kernel_rfl) (by rfl) (by simp [length_puntil]; omega) ?_; intro w3 hO3; rw [bv_set, puntil_set] at hO3; have HO3 := Lib.hid hO3; clear hO3)
      go_roundw
      case rel => exact ⟨i + 1, by omega, by go_num, HO3.out⟩
      case measure => simp [intOf]; omega
    · obtain rfl : i = k := by omega
      have hO3 := HO2.out
      rw [puntil_all] at hO3
      have HO3 := Lib.hid hO3
      clear HO2 hO3 hmk
      go_wp2
      go_ret
      refine ⟨_, [_], rfl, ?_, HO3.out⟩
      have := isBytes_whole g (pbytes v i) (by simpa using hk)
      rwa [length_pbytes] at this

theorem bytes32_c {w0 w : World} {R : Blks} (hO : Own w0 w R) (v : Int) : Calls Tryd.prog 36 #[.int .i64 v, .int .i64 32] w (GotBytes w0 R (pbytes v 32)) := by
  have := bytes_c hO v 32 (by omega)
  rwa [show (((32 : Nat) : Int)) = 32 from rfl] at this
/-- The world but for the draws. -/
def Quiet (w : World) (v : Value) (e : Ending) (w' : World) : Prop := e = .returned v ∧ ∃ m, w' = w.drewN m
theorem take_succ_eq {α : Type} {xs ys : List α} {k : Nat} (h : xs.take k = ys.take k) (hx : k < xs.length) (hy : k < ys.length) (e : xs[k] = ys[k]) : xs.take (k + 1) = ys.take (k + 1) := by
  rw [List.take_succ_eq_append_getElem hx, List.take_succ_eq_append_getElem hy, h, e]
theorem within_n {w : World} (v n : Int) (h1 : 1 ≤ n) (h2 : n ≤ 1000000000) : Calls Tryd.prog 11 #[.int .i64 v, .int .i64 n] w fun e w' => e = .returned (.int .i64 (((v % n).toNat : Nat) : Int)) ∧ w = w' := by
  have := Int.emod_nonneg v (show n ≠ 0 by omega)
  rw [Int.toNat_of_nonneg this]
  exact within_c v n h1 h2
theorem Rd.front {w0 : World} {R : Blks} {A : Option Addr} {n c : Nat} {xs : List Int} (h : Rd w0 R (.slice A n c) xs) (m : Nat) (hm : m ≤ n) : Rd w0 R (.slice A m c) (xs.take m) := by
  intro w' L' hO
  obtain ⟨A', n', c2, e, hn, hc, hA⟩ := h w' L' hO
  cases e
  refine ⟨_, _, _, rfl, by simp; omega, by omega, fun h0 => ?_⟩
  obtain ⟨ad', rfl, hcell⟩ := hA (by omega)
  refine ⟨ad', rfl, fun j x hx => ?_⟩
  have hj : j < m := by have := (List.getElem?_eq_some_iff.1 hx).1; simp at this; omega
  rw [List.getElem?_take_of_lt hj] at hx
  exact hcell j x hx
end Go.Proofs.YtkmfbfmmlldphaaDoor
