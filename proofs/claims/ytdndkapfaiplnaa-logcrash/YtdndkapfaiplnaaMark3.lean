/-
  Package mark: epochAt, seqAt; bytes.Equal; slices.Clone of bytes.
-/
import Derived.Test.YtdndkapfaiplnaaMark2
import Derived.Laws.BytesArg
import Derived.Laws.BitsLemmas
namespace Go.Proofs.Ytdndkapfaiplnaa
set_option linter.unusedVariables false
set_option linter.unusedSimpArgs false
set_option maxRecDepth 20000
open Go.RowKit

theorem wraps_24 (n : Int) (h0 : 0 ≤ n) (h1 : n < 2 ^ 24) : IntKind.i64.wrap n = n := IntWalk.i64_in n (by omega)
theorem join8 (x y : Int) (h0 : 0 ≤ x) (hm : x % 256 = 0) (h1 : x < 16777216) (h2 : 0 ≤ y) (h3 : y < 256) : bits .or .i64 x y = x + y :=
  bits_join .i64 24 (by decide) wraps_24 8 x y h0 hm h1 h2 h3 (by omega)
theorem join16 (x y : Int) (h0 : 0 ≤ x) (hm : x % 65536 = 0) (h1 : x < 16777216) (h2 : 0 ≤ y) (h3 : y < 65536) : bits .or .i64 x y = x + y :=
  bits_join .i64 24 (by decide) wraps_24 16 x y h0 hm h1 h2 h3 (by omega)
set_option maxHeartbeats 1000000 in
theorem epochAt_c {w : World} (ad : Addr) (n c : Nat) (hn : 2 ≤ n) (x y : Int) (c0 : w.cell? (ad.add 0) = some (.int .u8 x)) (c1 : w.cell? (ad.add 1) = some (.int .u8 y)) (hx0 : 0 ≤ x) (hx1 : x ≤ 255) (hy0 : 0 ≤ y) (hy1 : y ≤ 255) :
    Calls Try.prog 56 #[.slice (some ad) n c] w (Quiet w (.int .i64 (x * 256 + y))) := by
  have hn0 : 0 < n := by omega
  have hn1 : (1 : Int) < n := by omega
  have hc0 : w.cell? ad = some (.int .u8 x) := by rwa [show ad.add 0 = ad by unfold Addr.add; simp] at c0
  have hc1 : w.cell? ⟨ad.block, ad.off + 1, none⟩ = some (.int .u8 y) := c1
  have hj := join8 (x * 256) y (by omega) (by omega) (by omega) hy0 (by omega)
  have hwx : IntKind.i64.wrap x = x := IntWalk.i64_in _ (by omega)
  have hwy : IntKind.i64.wrap y = y := IntWalk.i64_in _ (by omega)
  have hw : IntKind.i64.wrap (x * 256) = x * 256 := IntWalk.i64_in _ (by omega)
  have HJ := Lib.hid hj
  clear hj c0 c1
  go_enter Try.func56, Try.ntmps56
  go_wp2
  refine wp_region_lin (fun w' => w' = w.drew) 11 [(0, true), (1, true), (2, true), (3, true), (4, true), (5, true), (6, true), (7, true), (8, true), (9, true), (10, true)] (by kernel_rfl) (by kernel_rfl) (fun _ _ d _ _ h => by cases d <;> exact h) rfl ?_
  simp only [List.map_cons, List.map_nil, pick_zero, pick_succ, List.drop_succ_cons, List.drop_zero]
  iterate 11 (refine lin_q ?_ rfl ?_ ?_; rotate_left 1; (focus (rintro w' rfl; go_simp; first | done | with_reducible rfl | (trace_state; fail))); simp only [Act.put, List.setIfInBounds_toArray, List.set_cons_zero, List.set_cons_succ])
  refine lin_nil ?_
  go_wp2
  go_ret
  refine ⟨?_, 1, rfl⟩
  rw [← HJ.out]; rfl
set_option maxHeartbeats 1000000 in
theorem seqAt_c {w : World} (ad : Addr) (n c : Nat) (hn : 3 ≤ n) (x y z : Int) (c0 : w.cell? (ad.add 0) = some (.int .u8 x)) (c1 : w.cell? (ad.add 1) = some (.int .u8 y)) (c2 : w.cell? (ad.add 2) = some (.int .u8 z)) (hx0 : 0 ≤ x) (hx1 : x ≤ 255) (hy0 : 0 ≤ y) (hy1 : y ≤ 255) (hz0 : 0 ≤ z) (hz1 : z ≤ 255) :
    Calls Try.prog 57 #[.slice (some ad) n c] w (Quiet w (.int .i64 (x * 65536 + y * 256 + z))) := by
  have hn0 : 0 < n := by omega
  have hn1 : (1 : Int) < n := by omega
  have hn2 : (2 : Int) < n := by omega
  have hc0 : w.cell? ad = some (.int .u8 x) := by rwa [show ad.add 0 = ad by unfold Addr.add; simp] at c0
  have hc1 : w.cell? ⟨ad.block, ad.off + 1, none⟩ = some (.int .u8 y) := c1
  have hc2 : w.cell? ⟨ad.block, ad.off + 2, none⟩ = some (.int .u8 z) := c2
  have hj := join16 (x * 65536) (y * 256) (by omega) (by omega) (by omega) (by omega) (by omega)
  have hj2 := join8 (x * 65536 + y * 256) z (by omega) (by omega) (by omega) hz0 (by omega)
  have hwx : IntKind.i64.wrap x = x := IntWalk.i64_in _ (by omega)
  have hwy : IntKind.i64.wrap y = y := IntWalk.i64_in _ (by omega)
  have hwz : IntKind.i64.wrap z = z := IntWalk.i64_in _ (by omega)
  have hw : IntKind.i64.wrap (x * 65536) = x * 65536 := IntWalk.i64_in _ (by omega)
  have hw2 : IntKind.i64.wrap (y * 256) = y * 256 := IntWalk.i64_in _ (by omega)
  have HJ := Lib.hid hj
  have HJ2 := Lib.hid hj2
  clear hj hj2 c0 c1 c2
  go_enter Try.func57, Try.ntmps57
  go_wp2
  refine wp_region_lin (fun w' => w' = w.drew) 17 [(0, true), (1, true), (2, true), (3, true), (4, true), (5, true), (6, true), (7, true), (8, true), (9, true), (10, true), (11, true), (12, true), (13, true), (14, true), (15, true), (16, true)] (by kernel_rfl) (by kernel_rfl) (fun _ _ d _ _ h => by cases d <;> exact h) rfl ?_
  simp only [List.map_cons, List.map_nil, pick_zero, pick_succ, List.drop_succ_cons, List.drop_zero]
  iterate 17 (refine lin_q ?_ rfl ?_ ?_; rotate_left 1; (focus (rintro w' rfl; go_simp; first | done | with_reducible rfl | (trace_state; fail))); simp only [Act.put, List.setIfInBounds_toArray, List.set_cons_zero, List.set_cons_succ])
  refine lin_nil ?_
  go_wp2
  go_ret
  refine ⟨?_, 1, rfl⟩
  rw [← HJ2.out, ← HJ.out]; rfl
/-! ### strings of bytes -/
def Byt (xs : List Int) : Prop := ∀ x ∈ xs, 0 ≤ x ∧ x ≤ 255
theorem strOfNums_inj : ∀ {xs ys : List Int}, Byt xs → Byt ys → strOfNums xs = strOfNums ys → xs = ys := by
  intro xs ys hx hy h
  have h' := congrArg (fun b : ByteArray => b.data.toList) h
  simp only [strOfNums_data] at h'
  have hu : ∀ a b : Int, 0 ≤ a → a ≤ 255 → 0 ≤ b → b ≤ 255 → UInt8.ofNat a.toNat = UInt8.ofNat b.toNat → a = b := by
    intro a b h1 h2 h3 h4 e
    have e' := congrArg UInt8.toNat e
    simp at e'
    omega
  clear h
  induction xs generalizing ys with
  | nil => cases ys with
    | nil => rfl
    | cons y ys => simp at h'
  | cons x xs ih => cases ys with
    | nil => simp at h'
    | cons y ys =>
      simp only [List.map_cons, List.cons.injEq] at h'
      have hxx := hx x (.head _)
      have hyy := hy y (.head _)
      rw [hu x y hxx.1 hxx.2 hyy.1 hyy.2 h'.1, ih (fun a ha => hx a (.tail _ ha)) (fun a ha => hy a (.tail _ ha)) h'.2]
theorem beq_str {xs ys : List Int} (hx : Byt xs) (hy : Byt ys) : ((strOfNums xs).toList == (strOfNums ys).toList) = decide (xs = ys) := by
  by_cases h : xs = ys
  · subst h; simp
  · rw [decide_eq_false h]
    apply beq_eq_false_iff_ne.2
    intro e
    apply h
    rw [ByteArray.toList_eq, ByteArray.toList_eq] at e
    apply strOfNums_inj hx hy
    have e2 : (strOfNums xs).data = (strOfNums ys).data := Array.ext' e
    exact ByteArray.ext e2
theorem convert_str {w : World} {v : Value} {xs : List Int} (h : Bs w v xs) : (convert 27 9 v).run Try.prog w = .ok (.string (strOfNums xs)) w := by
  obtain ⟨A, n, c, rfl, hn, hc, hA⟩ := h
  rcases A with _ | ad
  · have h0 : n = 0 := by
      rcases Nat.eq_zero_or_pos n with h0 | h0
      · exact h0
      · obtain ⟨ad, h, _⟩ := hA h0; cases h
    subst h0
    obtain rfl : xs = [] := List.eq_nil_of_length_eq_zero hn
    exact run_convert_bytes_nil w _ _ Try.underlying27 Try.underlying5 _ _ _ Try.underlying9
  · have hl : (loadCells ad n).run Try.prog w = .ok (xs.map (Value.int .u8)).toArray w := by
      have := run_loadCells_list (P := Try.prog) w ad (xs.map (Value.int .u8)) (fun j v hj => by
        simp only [List.getElem?_map, Option.map_eq_some_iff] at hj
        obtain ⟨x, hx, rfl⟩ := hj
        have hj : j < xs.length := (List.getElem?_eq_some_iff.1 hx).1
        obtain ⟨ad', e, hcell⟩ := hA (by omega)
        cases e
        exact hcell j x hx)
      rwa [List.length_map, hn] at this
    rw [run_convert_bytes_string w _ _ _ _ _ _ Try.underlying27 Try.underlying5 Try.underlying9, run_bytesToString w ad n c xs hl, foldl_push_bytes]
    rw [show ByteArray.empty.data = #[] from rfl, Array.empty_append]; rfl
set_option maxHeartbeats 1000000 in
theorem equal_c {w : World} (va vb : Value) (xs ys : List Int) (ha : Bs w va xs) (hb : Bs w vb ys) (hx : Byt xs) (hy : Byt ys) : Calls Try.prog 58 #[va, vb] w fun e w' => e = .returned (.bool (decide (xs = ys))) ∧ w = w' := by
  have h1 := convert_str ha
  have h2 := convert_str hb
  have HE := Lib.hid (beq_str hx hy)
  obtain ⟨A, c, rfl, _⟩ := ha.len
  obtain ⟨B, d, rfl, _⟩ := hb.len
  clear ha hb hx hy
  go_enter Try.func58, Try.ntmps58
  go_wp2
  go_ret
  refine ⟨?_, rfl⟩
  rw [← HE.out]; rfl
set_option maxHeartbeats 1000000 in
theorem cloneB_c {w0 w : World} {R : Blks} (hO : Own w0 w R) (ad : Addr) (n c : Nat) (xs : List Int) (hb : Rd w0 R (.slice (some ad) n c) xs) (hn : n ≤ 1073741824) :
    Calls Try.prog 37 #[.slice (some ad) n c] w (GotBytes w0 R xs) := by
  have hxn : xs.length = n := by
    obtain ⟨A, n', c', e, h, _⟩ := hb w [] hO
    cases e; exact h
  have heq := Lib.run_eql_slice_nil (P := Try.prog) w 27 _ (some ad) n c 0 0 Try.underlying27
  have HXN := Lib.hid hxn
  have HB := Lib.hid hb
  have HO := Lib.hid hO
  clear hb hO hxn
  go_enter Try.func37, Try.ntmps37
  go_wp2_with (first | (refine wl_buildSlice rfl _ _ _ rfl HO.out (.cells [].toArray 5) (by kernel_rfl) ?_; intro g w1 hO1; have HO1 := Lib.hid hO1; clear hO1) | (refine wl_append rfl _ _ _ rfl _ _ 1 1 Try.underlying27 byte_info (by rfl) (by omega) (.slice (some ⟨g, 0, none⟩) 0 0) 0 [] (by rfl) (L := [(g, .cells [].toArray 5)]) (R := R) ⟨rfl, .inr ⟨g, 0, [], rfl, rfl, by simp, Nat.le_refl _, by simp [maxLen]⟩⟩ (by exact HO1.out) ad n c (bv xs) (by rfl) (by rw [length_bv, HXN.out, Nat.mul_one]) (HB.out.src (L' := [_]) HO1.out) (one_bv _) (by simp only [maxLen]; omega) (by omega) ?_; intro v' w2 L2 hr2 hO2 hv2; have HR2 := Lib.hid hr2; have HO2 := Lib.hid hO2; clear hr2 hv2 hO2))
  go_ret
  refine ⟨v', L2, rfl, ?_, HO2.out⟩
  have := HR2.out
  rw [Nat.zero_add, List.nil_append, ← HXN.out] at this
  exact this
end Go.Proofs.Ytdndkapfaiplnaa
